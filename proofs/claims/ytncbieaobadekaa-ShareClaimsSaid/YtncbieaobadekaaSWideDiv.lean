/- complineref02.Div: how often a word is in a number of eight digits, and what is left. -/
import Derived.Test.YtncbieaobadekaaSWideRefs
import Derived.RegionTactic
import Derived.ChangeAlike
import Derived.Deep.QuietTactic
import Derived.BigQuiet
import Derived.Lib.Hide
import Derived.WalkSmall
import Derived.WalkLawsBesides
import Derived.Deep.Cut
namespace Go.Proofs.Ytncbieaobadekaa
open Go.ChangeShapes Go.WideShapes Go.ChangeAt Go.RowKit
/-- What dividing tells. -/
def divV (N c : Nat) : Value := if c = 0 then .tuple #[.int .u64 0, .int .u64 0, .int .i64 1] else if c * 18446744073709551616 ≤ N then .tuple #[.int .u64 0, .int .u64 0, .int .i64 2] else .tuple #[.int .u64 (N / c : Nat), .int .u64 (N % c : Nat), .int .i64 0]
/-- How far it is when k bits are left. -/
structure DSt (N c k q r : Nat) : Prop where
  k8 : k ≤ 128
  eq : N / 2 ^ k = q * c + r
  lt : r < c
  qlt : q < 18446744073709551616
theorem dig_bit (N k : Nat) : dg N (k / 16) / 2 ^ (k % 16) % 2 = N / 2 ^ k % 2 := by
  have h1 : 2 ^ k = 65536 ^ (k / 16) * 2 ^ (k % 16) := by
    have : (65536 : Nat) = 2 ^ 16 := by simp only [Nat.reducePow]
    rw [this, ← Nat.pow_mul, ← Nat.pow_add]
    congr 1; omega
  rw [h1, ← Nat.div_div_eq_div_mul, dg]
  generalize N / 65536 ^ (k / 16) = M
  have h2 : k % 16 < 16 := Nat.mod_lt _ (by omega)
  generalize k % 16 = t at h2
  have : t = 0 ∨ t = 1 ∨ t = 2 ∨ t = 3 ∨ t = 4 ∨ t = 5 ∨ t = 6 ∨ t = 7 ∨ t = 8 ∨ t = 9 ∨ t = 10 ∨ t = 11 ∨ t = 12 ∨ t = 13 ∨ t = 14 ∨ t = 15 := by omega
  rcases this with rfl | rfl | rfl | rfl | rfl | rfl | rfl | rfl | rfl | rfl | rfl | rfl | rfl | rfl | rfl | rfl <;> simp only [Nat.reducePow] <;> omega
theorem half (N k : Nat) : N / 2 ^ k = 2 * (N / 2 ^ (k + 1)) + N / 2 ^ k % 2 := by
  rw [Nat.pow_succ, ← Nat.div_div_eq_div_mul]; omega
theorem DSt.start {N c : Nat} (hN : N < 340282366920938463463374607431768211456) (hc : 0 < c) : DSt N c 128 0 0 :=
  ⟨by omega, by rw [Nat.zero_mul, Nat.div_eq_of_lt]; simp only [Nat.reducePow]; exact hN, hc, by omega⟩
theorem DSt.over {N c k q r : Nat} (h : DSt N c (k + 1) q r) (hq : 9223372036854775808 ≤ q) : c * 18446744073709551616 ≤ N := by
  have h1 := h.eq
  have h2 : q * c ≤ N / 2 ^ (k + 1) := by rw [h1]; exact Nat.le_add_right _ _
  have h3 : q * c * 2 ^ (k + 1) ≤ N := Nat.le_trans (Nat.mul_le_mul_right _ h2) (Nat.div_mul_le_self _ _)
  have h4 : 9223372036854775808 * c ≤ q * c := Nat.mul_le_mul_right c hq
  have h5 : 9223372036854775808 * c * 2 ≤ q * c * 2 ^ (k + 1) := Nat.mul_le_mul h4 (by rw [Nat.pow_succ]; have := Nat.two_pow_pos k; omega)
  omega
theorem DSt.yes {N c k q r : Nat} (h : DSt N c (k + 1) q r) (hq : q < 9223372036854775808) (hr : c ≤ 2 * r + N / 2 ^ k % 2) : DSt N c k (2 * q + 1) (2 * r + N / 2 ^ k % 2 - c) := by
  have h1 := half N k
  have h2 := h.eq
  have h3 := h.lt
  have h4 := h.k8
  refine ⟨by omega, ?_, by omega, by omega⟩
  rw [h1, h2, Nat.add_mul, Nat.one_mul, Nat.mul_add, Nat.mul_assoc]
  have : N / 2 ^ k % 2 < 2 := Nat.mod_lt _ (by omega)
  omega
theorem DSt.no {N c k q r : Nat} (h : DSt N c (k + 1) q r) (hq : q < 9223372036854775808) (hr : 2 * r + N / 2 ^ k % 2 < c) : DSt N c k (2 * q) (2 * r + N / 2 ^ k % 2) := by
  have h1 := half N k
  have h2 := h.eq
  have h4 := h.k8
  refine ⟨by omega, ?_, by omega, by omega⟩
  rw [h1, h2, Nat.mul_add, Nat.mul_assoc]
  omega
theorem DSt.ends {N c q r : Nat} (h : DSt N c 0 q r) : divV N c = .tuple #[.int .u64 (q : Nat), .int .u64 (r : Nat), .int .i64 0] := by
  have h1 := h.eq
  rw [Nat.pow_zero, Nat.div_one] at h1
  have h2 := h.lt
  have h3 := h.qlt
  have h4 : N / c = q := by rw [h1, Nat.add_comm, Nat.add_mul_div_right _ _ (by omega), Nat.div_eq_of_lt h2, Nat.zero_add]
  have h5 : N % c = r := by rw [h1, Nat.add_comm, Nat.add_mul_mod_self_right, Nat.mod_eq_of_lt h2]
  have h6 : ¬ c * 18446744073709551616 ≤ N := by
    have : q * c + c ≤ 18446744073709551616 * c := by rw [← Nat.succ_mul]; exact Nat.mul_le_mul_right c h3
    omega
  rw [divV, if_neg (by omega), if_neg h6, h4, h5]
theorem int_eq {k : IntKind} {a b : Int} (h : a = b) : Value.int k a = .int k b := by rw [h]
theorem divV_over {N c : Nat} (hc : 0 < c) (h : c * 18446744073709551616 ≤ N) : divV N c = .tuple #[.int .u64 0, .int .u64 0, .int .i64 2] := by
  rw [divV, if_neg (by omega), if_pos h]
theorem next_r (N k r : Nat) : IntKind.u64.wrap (IntKind.u64.wrap ((r : Int) * 2) + bits BinOp.and IntKind.u64 ((dg N (k / 16) : Int) / 2 ^ (k % 16)) 1) = (((2 * r + N / 2 ^ k % 2) % 18446744073709551616 : Nat) : Int) := by
  have e : ((dg N (k / 16) : Int) / 2 ^ (k % 16)) = ((dg N (k / 16) / 2 ^ (k % 16) : Nat) : Int) := by simp
  have h := dig_bit N k
  have h1 : dg N (k / 16) / 2 ^ (k % 16) ≤ 65536 := Nat.le_trans (Nat.div_le_self _ _) (Nat.le_of_lt (dg_lt _ _))
  rw [e]
  generalize dg N (k / 16) / 2 ^ (k % 16) = d at *
  rw [and_one_u64 _ (by omega) (by omega), IntKind.wrap_u64, IntKind.wrap_u64]
  omega
set_option maxHeartbeats 400000 in
theorem div_zero (N : Nat) (w : World) : Calls Try.prog 77 #[numV N, .int .u64 0] w (Ret (divV N 0) w) := by
  unfold numV
  go_enter Try.func77, Try.ntmps77
  go_wp2
  go_ret3
  exact ⟨rfl, by go_grown⟩
set_option maxHeartbeats 1000000 in
theorem div_any (N c : Nat) (hN : N < 340282366920938463463374607431768211456) (hc0 : 0 < c) (hc : (c : Int) < 18446744073709551616) (w : World) :
    Calls Try.prog 77 #[numV N, .int .u64 c] w (Ret (divV N c) w) := by
  have hd : ∀ j, j < 8 → (dg N j : Int) < 65536 := fun j _ => by have := dg_lt N j; omega
  have hc1 : ((c : Int) == 0) = false := by rw [beq_eq_false_iff_ne]; omega
  unfold numV
  go_enter Try.func77, Try.ntmps77
  go_wp2
  go_loop [7, 8, 9] (fun qv rv iv => ∃ k q r : Nat, qv = .int .u64 (q : Nat) ∧ rv = .int .u64 (r : Nat) ∧ iv = .int .i64 ((k : Int) - 1) ∧ DSt N c k q r) (fun _ _ iv => (intOf iv + 1).toNat)
  case atStart => exact ⟨128, 0, 0, rfl, rfl, rfl, DSt.start hN hc0⟩
  case round =>
    obtain ⟨k, q, r, rfl, rfl, rfl, hD⟩ := hrel
    rcases k with _ | k
    · have e : (((0 : Nat) : Int) - 1) = -1 := rfl
      rw [e]
      clear e hd
      go_wp2
      go_ret3
      exact ⟨by rw [hD.ends]; rfl, by go_grown⟩
    · have e : (((k + 1 : Nat) : Int) - 1) = (k : Int) := by omega
      rw [e]
      clear e hd
      have hk := hD.k8
      have b1 : (r : Int) < (c : Int) := by have := hD.lt; omega
      have b2 : (q : Int) < 18446744073709551616 := by have := hD.qlt; omega
      have hcell : (w.alloc (.cells #[.int .u64 (dg N 0 : Nat), .int .u64 (dg N 1 : Nat), .int .u64 (dg N 2 : Nat), .int .u64 (dg N 3 : Nat), .int .u64 (dg N 4 : Nat), .int .u64 (dg N 5 : Nat), .int .u64 (dg N 6 : Nat), .int .u64 (dg N 7 : Nat)] 82)).cell? ⟨w.heap.size, k / 16, none⟩ = some (.int .u64 (dg N (k / 16) : Nat)) := by
        have : k / 16 = 0 ∨ k / 16 = 1 ∨ k / 16 = 2 ∨ k / 16 = 3 ∨ k / 16 = 4 ∨ k / 16 = 5 ∨ k / 16 = 6 ∨ k / 16 = 7 := by omega
        rcases this with h | h | h | h | h | h | h | h <;> rw [h] <;> go_cell
      go_upto_region 10 with (fail)
      rw [next_r]
      have hb : N / 2 ^ k % 2 < 2 := Nat.mod_lt _ (by omega)
      have HY := Lib.hid (hD.yes (k := k))
      have HN := Lib.hid (hD.no (k := k))
      have HO := Lib.hid (hD.over (k := k))
      clear hcell hD
      generalize N / 2 ^ k % 2 = b at *
      have hbi : (b : Int) < 2 := by omega
      by_cases hq : q < 9223372036854775808
      · have q1 : (((q : Int) / 9223372036854775808) == 1) = false := by rw [beq_eq_false_iff_ne]; omega
        have q2 : (q : Int) < 9223372036854775808 := by omega
        by_cases hr : 9223372036854775808 ≤ r
        · have e1 : ((r : Int) / 9223372036854775808) = 1 := by omega
          have HR := Lib.hid (show (2 * r + b) % 18446744073709551616 + 18446744073709551616 = 2 * r + b by omega)
          have g1 : (2 * r + b) % 18446744073709551616 < 18446744073709551616 := Nat.mod_lt _ (by omega)
          rw [e1]
          clear e1
          generalize (2 * r + b) % 18446744073709551616 = R at *
          clear hb
          go_wp2
          go_round
          case rel => exact ⟨k, 2 * q + 1, 2 * r + b - c, int_eq (by omega), int_eq (by have := HR.out; rw [IntKind.wrap_u64]; omega), rfl, HY.out hq (by omega)⟩
          case measure => simp [intOf] <;> omega
        · have e1 : ((r : Int) / 9223372036854775808) = 0 := by omega
          have HR := Lib.hid (show (2 * r + b) % 18446744073709551616 = 2 * r + b from Nat.mod_eq_of_lt (by omega))
          have g1 : (((2 * r + b) % 18446744073709551616 : Nat) : Int) < 18446744073709551616 := by omega
          rw [e1]
          clear e1
          generalize (2 * r + b) % 18446744073709551616 = R at *
          clear hb hr
          by_cases hy : (c : Int) ≤ R
          · go_wp2
            go_round
            case rel => exact ⟨k, 2 * q + 1, 2 * r + b - c, int_eq (by omega), int_eq (by have := HR.out; omega), rfl, HY.out hq (by have := HR.out; omega)⟩
            case measure => simp [intOf] <;> omega
          · have d1 : decide ((c : Int) ≤ R) = false := by simpa using hy
            go_wp2
            go_round
            case rel => exact ⟨k, 2 * q, 2 * r + b, int_eq (by omega), int_eq (by have := HR.out; omega), rfl, HN.out hq (by have := HR.out; omega)⟩
            case measure => simp [intOf] <;> omega
      · have q1 : (((q : Int) / 9223372036854775808) == 1) = true := by rw [beq_iff_eq]; omega
        have HV := Lib.hid (divV_over hc0 (HO.out (by omega)))
        clear HY HN HO
        by_cases hr : 9223372036854775808 ≤ r
        · have e1 : ((r : Int) / 9223372036854775808) = 1 := by omega
          rw [e1]
          clear e1
          generalize (2 * r + b) % 18446744073709551616 = R at *
          go_wp2
          go_ret3
          exact ⟨by rw [HV.out]; rfl, by go_grown⟩
        · have e1 : ((r : Int) / 9223372036854775808) = 0 := by omega
          rw [e1]
          clear e1
          generalize (2 * r + b) % 18446744073709551616 = R at *
          by_cases hy : (c : Int) ≤ R
          · go_wp2
            go_ret3
            exact ⟨by rw [HV.out]; rfl, by go_grown⟩
          · have d1 : decide ((c : Int) ≤ R) = false := by simpa using hy
            go_wp2
            go_ret3
            exact ⟨by rw [HV.out]; rfl, by go_grown⟩
end Go.Proofs.Ytncbieaobadekaa
