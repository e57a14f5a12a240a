/- The word is the document's. -/
import Derived.Test.YthmbpoldjddheaaCfRefWrong
namespace Go.Proofs.Ythmbpoldjddheaa
open Go.ChangeShapes Go.WideShapes Go.ChangeAt Go.RowKit
theorem tk_0 (p q r s : Nat → Int) (i : Nat) : tk p q r s (i * 4) = p i := by unfold tk; rw [if_pos (by omega), show i * 4 / 4 = i by omega]
theorem tk_1 (p q r s : Nat → Int) (i : Nat) : tk p q r s (i * 4 + 1) = q i := by unfold tk; rw [if_neg (by omega), if_pos (by omega), show (i * 4 + 1) / 4 = i by omega]
theorem tk_2 (p q r s : Nat → Int) (i : Nat) : tk p q r s (i * 4 + 2) = r i := by unfold tk; rw [if_neg (by omega), if_neg (by omega), if_pos (by omega), show (i * 4 + 2) / 4 = i by omega]
theorem tk_3 (p q r s : Nat → Int) (i : Nat) : tk p q r s (i * 4 + 3) = s i := by unfold tk; rw [if_neg (by omega), if_neg (by omega), if_neg (by omega), show (i * 4 + 3) / 4 = i by omega]
theorem ah_0 (p q r s : Nat → Int) (i : Nat) : ahead (tk p q r s) (i * 4) = clo s i := by
  unfold ahead clo
  by_cases h : i = 0
  · rw [if_pos (by omega), if_pos h]
  · rw [if_neg (by omega), if_neg h, show i * 4 - 1 = (i - 1) * 4 + 3 by omega, tk_3]
theorem ah_1 (p q r s : Nat → Int) (i : Nat) : ahead (tk p q r s) (i * 4 + 1) = p i := by unfold ahead; rw [if_neg (by omega), show i * 4 + 1 - 1 = i * 4 by omega, tk_0]
theorem ah_2 (p q r s : Nat → Int) (i : Nat) : ahead (tk p q r s) (i * 4 + 2) = q i := by unfold ahead; rw [if_neg (by omega), show i * 4 + 2 - 1 = i * 4 + 1 by omega, tk_1]
theorem ah_3 (p q r s : Nat → Int) (i : Nat) : ahead (tk p q r s) (i * 4 + 3) = r i := by unfold ahead; rw [if_neg (by omega), show i * 4 + 3 - 1 = i * 4 + 2 by omega, tk_2]
theorem up_iff (p q r s : Nat → Int) (n : Nat) : (∀ j, j < n * 4 → upB (tk p q r s) j = true) ↔ (∀ i, i < n → cyB p q r s i = true) := by
  constructor
  · intro h i hi
    have h0 := h (i * 4) (by omega)
    have h1 := h (i * 4 + 1) (by omega)
    have h2 := h (i * 4 + 2) (by omega)
    have h3 := h (i * 4 + 3) (by omega)
    unfold upB wi at h0 h1 h2 h3
    rw [ah_0, tk_0] at h0
    rw [ah_1, tk_1] at h1
    rw [ah_2, tk_2] at h2
    rw [ah_3, tk_3] at h3
    simp only [Bool.and_eq_true, decide_eq_true_eq] at h0 h1 h2 h3
    unfold cyB
    simp only [Bool.and_eq_true, decide_eq_true_eq]
    omega
  · intro h j hj
    have hc := h (j / 4) (by omega)
    unfold cyB at hc
    simp only [Bool.and_eq_true, decide_eq_true_eq] at hc
    obtain ⟨i, hi⟩ : ∃ i, j / 4 = i := ⟨_, rfl⟩
    rw [hi] at hc
    unfold upB wi
    rcases (show j = i * 4 ∨ j = i * 4 + 1 ∨ j = i * 4 + 2 ∨ j = i * 4 + 3 by omega) with rfl | rfl | rfl | rfl
    · rw [ah_0, tk_0]; simp only [Bool.and_eq_true, decide_eq_true_eq]; omega
    · rw [ah_1, tk_1]; simp only [Bool.and_eq_true, decide_eq_true_eq]; omega
    · rw [ah_2, tk_2]; simp only [Bool.and_eq_true, decide_eq_true_eq]; omega
    · rw [ah_3, tk_3]; simp only [Bool.and_eq_true, decide_eq_true_eq]; omega
theorem word_eq (c : CF) : c.word = c.rword := by
  have e3 : c.b3 = (c.d5 && c.e6) := by
    unfold CF.b3 CF.d5 CF.e6 allB
    rw [decide_eq_decide.2 (up_iff c.p c.q c.r c.s c.nc)]
  have e1 : c.b1 = (c.d1 && c.e2) := rfl
  have e2 : c.b2 = (c.d3 && c.e4) := rfl
  unfold CF.word CF.rword
  rw [e1, e2, e3]
  cases c.d1 <;> cases c.e2 <;> cases c.d3 <;> cases c.e4 <;> cases c.d5 <;> cases c.e6 <;> simp
end Go.Proofs.Ythmbpoldjddheaa
