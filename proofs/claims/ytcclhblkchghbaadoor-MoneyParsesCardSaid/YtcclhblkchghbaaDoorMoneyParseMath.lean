/- Texts of amounts, read back: plain lists, no walk. -/
import Derived.Test.YtcclhblkchghbaaDoorMoneyText2
import Derived.Lib.ParseIntBCases
import Derived.Lib.IndexMore
namespace Go.Proofs.YtcclhblkchghbaaDoor
open Go.RowKit
def isDig (c : UInt8) : Prop := 48 ≤ c.toNat ∧ c.toNat ≤ 57
/-- What digits come to. -/
def dv (acc : Nat) (l : List UInt8) : Nat := l.foldl (fun a c => a * 10 + (c.toNat - 48)) acc
theorem dv_nil (acc : Nat) : dv acc [] = acc := rfl
theorem dv_cons (acc : Nat) (c : UInt8) (l : List UInt8) : dv acc (c :: l) = dv (acc * 10 + (c.toNat - 48)) l := by
  unfold dv
  rw [List.foldl_cons]
theorem dv_append (acc : Nat) (l m : List UInt8) : dv acc (l ++ m) = dv (dv acc l) m := by
  unfold dv
  rw [List.foldl_append]
theorem dv_ge (l : List UInt8) (acc : Nat) : acc ≤ dv acc l := by
  induction l generalizing acc with
  | nil => exact Nat.le_refl _
  | cons c l ih =>
    rw [dv_cons]
    exact Nat.le_trans (Nat.le_trans (Nat.le_mul_of_pos_right acc (by decide)) (Nat.le_add_right _ _)) (ih _)
theorem dig_nat {d : Nat} (h : d < 10) : (UInt8.ofNat (48 + d)).toNat = 48 + d := by
  rw [UInt8.toNat_ofNat']
  omega
theorem dig_isDig {d : Nat} (h : d < 10) : isDig (UInt8.ofNat (48 + d)) := by unfold isDig; rw [dig_nat h]; omega
theorem decDigits_step {u : Nat} (h : ¬ u < 10) : Lib.decDigits u = Lib.decDigits (u / 10) ++ [UInt8.ofNat (48 + u % 10)] := by rw [Lib.decDigits, dif_neg h]
theorem decDigits_dig (u : Nat) : ∀ c ∈ Lib.decDigits u, isDig c := by
  induction u using Nat.strongRecOn with
  | _ u ih =>
    by_cases h : u < 10
    · rw [Lib.decDigits_one h]
      intro c hc
      rw [List.mem_singleton.1 hc]
      exact dig_isDig h
    · rw [decDigits_step h]
      intro c hc
      rcases List.mem_append.1 hc with hc | hc
      · exact ih (u / 10) (by omega) c hc
      · rw [List.mem_singleton.1 hc]
        exact dig_isDig (by omega)
theorem decDigits_val (u : Nat) : dv 0 (Lib.decDigits u) = u := by
  induction u using Nat.strongRecOn with
  | _ u ih =>
    by_cases h : u < 10
    · rw [Lib.decDigits_one h, dv_cons, dv_nil, dig_nat h]
      omega
    · rw [decDigits_step h, dv_append, ih (u / 10) (by omega), dv_cons, dv_nil, dig_nat (by omega)]
      omega
theorem decDigits_ne (u : Nat) : Lib.decDigits u ≠ [] := by
  intro h
  have := Lib.decDigits_length u
  rw [h] at this
  have h2 := Lib.nDigits_pos u
  simp at this
  omega
/-- The digits of an amount, without its sign and its dot. -/
def flat (u : Nat) : List UInt8 := Lib.decDigits (u / 100) ++ (Lib.decDigits (u % 100 / 10) ++ Lib.decDigits (u % 10))
theorem flat_dig (u : Nat) : ∀ c ∈ flat u, isDig c := by
  intro c hc
  unfold flat at hc
  rcases List.mem_append.1 hc with hc | hc
  · exact decDigits_dig _ c hc
  · rcases List.mem_append.1 hc with hc | hc
    · exact decDigits_dig _ c hc
    · exact decDigits_dig _ c hc
theorem flat_val (u : Nat) : dv 0 (flat u) = u := by
  unfold flat
  rw [dv_append, decDigits_val, Lib.decDigits_one (show u % 100 / 10 < 10 by omega), Lib.decDigits_one (show u % 10 < 10 by omega)]
  simp only [List.cons_append, List.nil_append, dv_cons, dv_nil]
  rw [dig_nat (by omega), dig_nat (by omega)]
  omega
theorem parseU_digits (l : List UInt8) (acc : Nat) (hd : ∀ c ∈ l, isDig c) (hv : dv acc l ≤ 9223372036854775808) : Lib.parseUintM 18446744073709551615 acc l = .ok (dv acc l) := by
  induction l generalizing acc with
  | nil => rfl
  | cons c l ih =>
    have hc : 48 ≤ c.toNat ∧ c.toNat ≤ 57 := hd c (by simp)
    rw [dv_cons] at hv
    rw [dv_cons]
    have h1 := Nat.le_trans (dv_ge l (acc * 10 + (c.toNat - 48))) hv
    unfold Lib.parseUintM
    generalize c.toNat = d at *
    rw [if_pos hc, if_neg (by omega), if_neg (by omega)]
    exact ih _ (fun x hx => hd x (by simp [hx])) hv
theorem flat_ne (u : Nat) : flat u ≠ [] := by
  unfold flat
  intro h
  exact decDigits_ne _ (List.append_eq_nil_iff.1 h).1
theorem parseU_flat (u : Nat) (h : u ≤ 9223372036854775808) : Lib.parseUintB 64 (flat u) = .ok u := by
  unfold Lib.parseUintB
  rw [if_neg (flat_ne u), show 2 ^ 64 - 1 = 18446744073709551615 from rfl, parseU_digits _ 0 (flat_dig u) (by rw [flat_val]; exact h), flat_val]
theorem parseI_text (v : Int) (hv : -9223372036854775808 ≤ v ∧ v ≤ 9223372036854775807) : Lib.parseIntB 64 (signL v ++ flat v.natAbs) = .ok v := by
  have hu := parseU_flat v.natAbs (by omega)
  by_cases h : v < 0
  · rw [signL, if_pos h]
    show Lib.parseIntB 64 (45 :: flat v.natAbs) = _
    rw [Lib.parseIntB_minus, hu]
    show (if 2 ^ (64 - 1) < v.natAbs then Lib.NumEnd.range else .ok (-(v.natAbs : Int))) = _
    rw [if_neg (by simp only [Nat.reduceSub, Nat.reducePow]; omega)]
    congr 1
    omega
  · rw [signL, if_neg h, List.nil_append]
    obtain ⟨c, r, e⟩ : ∃ c r, flat v.natAbs = c :: r := by
      cases hf : flat v.natAbs with
      | nil => exact absurd hf (flat_ne _)
      | cons c r => exact ⟨c, r, rfl⟩
    have hc : isDig c := flat_dig v.natAbs c (by rw [e]; simp)
    unfold isDig at hc
    rw [e] at hu ⊢
    rw [Lib.parseIntB_plain 64 c r (by omega) (by omega), hu]
    show (if 2 ^ (64 - 1) ≤ v.natAbs then Lib.NumEnd.range else .ok ((v.natAbs : Nat) : Int)) = _
    rw [if_neg (by simp only [Nat.reduceSub, Nat.reducePow]; omega)]
    congr 1
    omega
/-- The text without what stands behind the dot, and that. -/
theorem textL_parts (v : Int) : textL v = (signL v ++ Lib.decDigits (v.natAbs / 100)) ++ 46 :: (Lib.decDigits (v.natAbs % 100 / 10) ++ Lib.decDigits (v.natAbs % 10)) := by
  simp [textL]
theorem cut_at (A B : List UInt8) (h : ∀ c ∈ A, c ≠ 46) : Lib.cut (A ++ 46 :: B) [46] = (A, B, true) := by
  have hi : Lib.index (A ++ 46 :: B) [46] = (A.length : Nat) := by
    refine Lib.index_first (by simp) ?_ (fun j hj => ?_)
    · simp [Lib.occAt, List.isPrefixOf]
    · have e : (A ++ 46 :: B).drop j = A[j] :: (A ++ 46 :: B).drop (j + 1) := by
        rw [List.drop_eq_getElem_cons (by simp; omega)]
        simp [hj]
      rw [Lib.occAt, e]
      have hne := h A[j] (List.getElem_mem hj)
      simp [List.isPrefixOf]
      exact fun hh => hne hh.symm
  unfold Lib.cut
  rw [hi, if_pos (by omega)]
  simp
theorem cut_text (v : Int) : Lib.cut (textL v) [46] = (signL v ++ Lib.decDigits (v.natAbs / 100), Lib.decDigits (v.natAbs % 100 / 10) ++ Lib.decDigits (v.natAbs % 10), true) := by
  rw [textL_parts]
  refine cut_at _ _ (fun c hc => ?_)
  rcases List.mem_append.1 hc with hc | hc
  · unfold signL at hc
    split at hc
    · rw [List.mem_singleton.1 hc]; decide
    · cases hc
  · have := decDigits_dig _ c hc
    unfold isDig at this
    intro hh
    rw [hh] at this
    simp at this
theorem textL_len (v : Int) (hv : -9223372036854775808 ≤ v ∧ v ≤ 9223372036854775807) : (textL v).length ≤ 21 := by
  have h0 : (signL v).length ≤ 1 := by unfold signL; split <;> simp
  have h1 : Lib.nDigits (v.natAbs / 100) ≤ 17 := by
    rcases Nat.eq_zero_or_pos (v.natAbs / 100) with h | h
    · rw [h, Lib.nDigits_small (by omega)]; omega
    · rcases Nat.lt_or_ge 17 (Lib.nDigits (v.natAbs / 100)) with h2 | h2
      · have hlen : 10 ^ 17 ≤ v.natAbs / 100 := by
          rcases Nat.lt_or_ge (v.natAbs / 100) (10 ^ 17) with h3 | h3
          · exfalso
            have : ∀ k u, u < 10 ^ (k + 1) → Lib.nDigits u ≤ k + 1 := by
              intro k
              induction k with
              | zero => intro u hu; rw [Lib.nDigits_small (by simpa using hu)]; omega
              | succ k ih =>
                intro u hu
                by_cases hs : u < 10
                · rw [Lib.nDigits_small hs]; omega
                · rw [Lib.nDigits_big hs]
                  have := ih (u / 10) (by rw [Nat.pow_succ] at hu; omega)
                  omega
            have h4 := this 16 _ h3
            omega
          · exact h3
        simp only [Nat.reducePow] at hlen
        omega
      · exact h2
  rw [textL_parts]
  simp only [List.length_append, List.length_cons, Lib.decDigits_length]
  rw [Lib.nDigits_small (show v.natAbs % 100 / 10 < 10 by omega), Lib.nDigits_small (show v.natAbs % 10 < 10 by omega)]
  omega
end Go.Proofs.YtcclhblkchghbaaDoor
