/- Numbers as bytes: codes, their bytes, and what bytes begin with. -/
import Derived.Test.YtbpaongnehgodaaNBase
namespace Go.Proofs.Ytbpaongnehgodaa
open Go.ChangeShapes Go.WideShapes Go.ChangeAt Go.RowKit
/-- A number's code. -/
def codeN (n : Int) : Nat := if 0 ≤ n then (2 * n).toNat else (-2 * n - 1).toNat
/-- The number of a code. -/
def numN (c : Nat) : Int := if c % 2 = 0 then ((c / 2 : Nat) : Int) else -((c / 2 : Nat) : Int) - 1
theorem numN_code (n : Int) : numN (codeN n) = n := by
  unfold numN codeN
  split <;> split <;> omega
theorem codeN_num (c : Nat) : codeN (numN c) = c := by
  unfold numN codeN
  split <;> split <;> omega
theorem codeN_lt {n : Int} (h : -9223372036854775808 ≤ n ∧ n ≤ 9223372036854775807) : codeN n < 18446744073709551616 := by
  unfold codeN
  split <;> omega
theorem numN_in {c : Nat} (h : c < 18446744073709551616) : -9223372036854775808 ≤ numN c ∧ numN c ≤ 9223372036854775807 := by
  unfold numN
  split <;> omega
/-- A code's bytes. -/
def encN (c : Nat) : List UInt8 := if c < 128 then [UInt8.ofNat c] else UInt8.ofNat (128 + c % 128) :: encN (c / 128)
termination_by c
decreasing_by omega
theorem encN_one {c : Nat} (h : c < 128) : encN c = [UInt8.ofNat c] := by rw [encN, if_pos h]
theorem encN_more {c : Nat} (h : ¬ c < 128) : encN c = UInt8.ofNat (128 + c % 128) :: encN (c / 128) := by rw [encN, if_neg h]
/-- What bytes begin with: too short; of no form; a code, and how many bytes. -/
inductive GetA where
  | short
  | form
  | ok (v m : Nat)
/-- A byte of seven bits, ahead of what comes. -/
def GetA.step (b : Nat) : GetA → GetA
  | .short => .short
  | .form => .form
  | .ok v m => .ok (b % 128 + 128 * v) (m + 1)
/-- What is left of a code, behind i bytes. -/
def getR : Nat → List UInt8 → GetA
  | _, [] => .short
  | i, b :: l => if (b.toNat = 0 ∧ 0 < i) ∨ (1 < b.toNat ∧ i = 9) then .form else if b.toNat < 128 then .ok (b.toNat % 128) 1 else (getR (i + 1) l).step b.toNat
/-- i bytes that come to c are ahead of it. -/
def GetA.shift (i c : Nat) : GetA → GetA
  | .short => .short
  | .form => .form
  | .ok v m => .ok (c + 128 ^ i * v) (m + i)
theorem shift_zero (g : GetA) : g.shift 0 0 = g := by cases g <;> simp [GetA.shift]
theorem shift_step (g : GetA) (i c b : Nat) : (g.step b).shift i c = g.shift (i + 1) (c + 128 ^ i * (b % 128)) := by
  cases g with
  | short => rfl
  | form => rfl
  | ok v m =>
    simp only [GetA.step, GetA.shift]
    congr 1
    · rw [Nat.pow_succ, Nat.mul_add, Nat.mul_assoc]; omega
    · omega
theorem pow64 : ∀ {i : Nat}, i ≤ 9 → 128 ^ i * 2 ≤ 18446744073709551616
  | 0, _ | 1, _ | 2, _ | 3, _ | 4, _ | 5, _ | 6, _ | 7, _ | 8, _ | 9, _ => by decide
/-- What is put is got. -/
theorem getR_enc (more : List UInt8) : ∀ (i c : Nat), i ≤ 9 → 128 ^ i * c < 18446744073709551616 → (0 < i → 0 < c) → getR i (encN c ++ more) = .ok c (encN c).length := by
  intro i
  induction h : 9 - i generalizing i with
  | zero =>
    intro c hi hc hp
    obtain rfl : i = 9 := by omega
    have hc1 : c = 1 := by have := hp (by omega); have : c < 2 := by omega
                           omega
    subst hc1
    rw [encN_one (by omega)]
    rfl
  | succ k ih =>
    intro c hi hc hp
    by_cases h1 : c < 128
    · rw [encN_one h1]
      have e : (UInt8.ofNat c).toNat = c := by simp; omega
      simp only [List.cons_append, getR, e, List.length_singleton]
      rw [if_neg (by omega), if_pos h1, Nat.mod_eq_of_lt h1]
    · rw [encN_more h1]
      have e : (UInt8.ofNat (128 + c % 128)).toNat = 128 + c % 128 := by simp; omega
      simp only [List.cons_append, getR, e, List.length_cons]
      rw [if_neg (by omega), if_neg (by omega), ih (i + 1) (by omega) (c / 128) (by omega) ?_ (fun _ => by omega)]
      · simp only [GetA.step]
        congr 1
        omega
      · have : 128 ^ (i + 1) * (c / 128) = 128 ^ i * (128 * (c / 128)) := by rw [Nat.pow_succ, Nat.mul_assoc]
        rw [this]
        exact Nat.lt_of_le_of_lt (Nat.mul_le_mul_left _ (by omega)) hc
/-- What is got has just these bytes. -/
theorem enc_getR : ∀ (l : List UInt8) (i v m : Nat), i ≤ 9 → getR i l = .ok v m → l.take m = encN v ∧ 128 ^ i * v < 18446744073709551616 ∧ (0 < i → 0 < v) ∧ m ≤ l.length ∧ 0 < m
  | [], i, v, m, _, h => by cases h
  | b :: l, i, v, m, hi, h => by
    have hb := UInt8.toNat_lt b
    rw [getR] at h
    split at h
    · cases h
    · rename_i h1
      split at h
      · rename_i h2
        cases h
        rw [Nat.mod_eq_of_lt h2]
        refine ⟨?_, ?_, fun h => by omega, by simp, by omega⟩
        · rw [encN_one h2]
          simp
        · by_cases h9 : i = 9
          · subst h9
            have : b.toNat ≤ 1 := by omega
            have : 128 ^ 9 * b.toNat ≤ 128 ^ 9 * 1 := Nat.mul_le_mul_left _ this
            omega
          · have h8 : i ≤ 8 := by omega
            have p := pow64 (show i + 1 ≤ 9 by omega)
            have : 128 ^ i * b.toNat < 128 ^ i * 128 := Nat.mul_lt_mul_of_pos_left h2 (Nat.pow_pos (by omega))
            rw [Nat.pow_succ] at p
            omega
      · rename_i h2
        have h9 : i ≠ 9 := fun e => h1 (Or.inr ⟨by omega, e⟩)
        cases hg : getR (i + 1) l with
        | short => rw [hg] at h; cases h
        | form => rw [hg] at h; cases h
        | ok u k =>
          rw [hg] at h
          cases h
          obtain ⟨e1, e2, e3, e4, e5⟩ := enc_getR l (i + 1) u k (by omega) hg
          have hu := e3 (by omega)
          refine ⟨?_, ?_, fun _ => by omega, by simp; omega, by omega⟩
          · rw [encN_more (by omega)]
            have ed : (b.toNat % 128 + 128 * u) / 128 = u := by omega
            have em : (b.toNat % 128 + 128 * u) % 128 = b.toNat % 128 := by omega
            rw [ed, em, show 128 + b.toNat % 128 = b.toNat by omega, List.take_succ_cons, e1]
            simp
          · have e : 128 ^ (i + 1) * u = 128 ^ i * (128 * u) := by rw [Nat.pow_succ, Nat.mul_assoc]
            rw [e] at e2
            -- 128^i * (b % 128 + 128 u) < 2^64: both are below a multiple
            obtain ⟨q, hq⟩ : ∃ q, 18446744073709551616 = 128 ^ i * (128 * q) := by
              have h8 : i ≤ 8 := by omega
              refine ⟨2 ^ (57 - 7 * i), ?_⟩
              have : ∀ i, i ≤ 8 → 18446744073709551616 = 128 ^ i * (128 * 2 ^ (57 - 7 * i)) := by decide
              exact this i h8
            rw [hq] at e2 ⊢
            have hlt : 128 * u < 128 * q := Nat.lt_of_mul_lt_mul_left e2
            exact Nat.mul_lt_mul_of_pos_left (by omega) (Nat.pow_pos (by omega))
theorem encN_pos (c : Nat) : 0 < (encN c).length := by
  rw [encN]
  split <;> simp
theorem encN_len {c : Nat} (h : c < 18446744073709551616) : (encN c).length ≤ 10 := by
  have key : ∀ k c, c < 128 ^ (k + 1) → (encN c).length ≤ k + 1 := by
    intro k
    induction k with
    | zero => intro c hc; rw [encN_one (by omega)]; simp
    | succ k ih =>
      intro c hc
      by_cases h1 : c < 128
      · rw [encN_one h1]; simp
      · rw [encN_more h1]
        have := ih (c / 128) (by rw [Nat.pow_succ] at hc; omega)
        simp
        omega
  refine key 9 c (Nat.lt_trans h ?_)
  decide
end Go.Proofs.Ytbpaongnehgodaa
