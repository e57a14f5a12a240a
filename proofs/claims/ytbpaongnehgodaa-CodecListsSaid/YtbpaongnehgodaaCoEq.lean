/- Two commands, compared. -/
import Derived.Test.YtbpaongnehgodaaCoRefHas
namespace Go.Proofs.Ytbpaongnehgodaa
open Go.ChangeShapes Go.WideShapes Go.ChangeAt Go.RowKit
/-- The same? -/
def cmEq (a b : Cm) : Bool := decide (a.k = b.k ∧ a.i = b.i ∧ a.m = b.m ∧ a.o = b.o ∧ a.s = b.s ∧ a.q = b.q ∧ a.p = b.p)
theorem cmEq_iff {a b : Cm} : cmEq a b = true ↔ a = b := by
  unfold cmEq
  rw [decide_eq_true_iff]
  constructor
  · rintro ⟨h1, h2, h3, h4, h5, h6, h7⟩
    cases a
    cases b
    simp only at h1 h2 h3 h4 h5 h6 h7
    subst h1 h2 h3 h4 h5 h6 h7
    rfl
  · rintro rfl
    exact ⟨rfl, rfl, rfl, rfl, rfl, rfl, rfl⟩
set_option maxHeartbeats 2000000 in
theorem run_eql_cm (a b : Cm) (W : World) : (binOp .eql 23 (cmv a) (cmv b)).run Try.prog W = .ok (.bool (cmEq a b)) W := by
  obtain ⟨a0, a1, a2, a3, a4, a5, a6⟩ := a
  obtain ⟨b0, b1, b2, b3, b4, b5, b6⟩ := b
  unfold cmEq
  by_cases h0 : a0 = b0
  rotate_left
  · simp [go_sem, h0]
  by_cases h1 : a1 = b1
  rotate_left
  · simp [go_sem, h0, h1]
  by_cases h2 : a2 = b2
  rotate_left
  · simp [go_sem, h0, h1, h2]
  by_cases h3 : a3 = b3
  rotate_left
  · simp [go_sem, h0, h1, h2, h3]
  by_cases h4 : a4 = b4
  rotate_left
  · simp [go_sem, h0, h1, h2, h3, h4]
  by_cases h5 : a5 = b5
  rotate_left
  · simp [go_sem, h0, h1, h2, h3, h4, h5]
  by_cases h6 : a6 = b6
  rotate_left
  · simp [go_sem, h0, h1, h2, h3, h4, h5, h6]
  simp [go_sem, h0, h1, h2, h3, h4, h5, h6]
set_option maxHeartbeats 2000000 in
theorem run_neq_cm (a b : Cm) (W : World) : (binOp .neq 23 (cmv a) (cmv b)).run Try.prog W = .ok (.bool (!cmEq a b)) W := by
  obtain ⟨a0, a1, a2, a3, a4, a5, a6⟩ := a
  obtain ⟨b0, b1, b2, b3, b4, b5, b6⟩ := b
  unfold cmEq
  by_cases h0 : a0 = b0
  rotate_left
  · simp [go_sem, h0]
  by_cases h1 : a1 = b1
  rotate_left
  · simp [go_sem, h0, h1]
  by_cases h2 : a2 = b2
  rotate_left
  · simp [go_sem, h0, h1, h2]
  by_cases h3 : a3 = b3
  rotate_left
  · simp [go_sem, h0, h1, h2, h3]
  by_cases h4 : a4 = b4
  rotate_left
  · simp [go_sem, h0, h1, h2, h3, h4]
  by_cases h5 : a5 = b5
  rotate_left
  · simp [go_sem, h0, h1, h2, h3, h4, h5]
  by_cases h6 : a6 = b6
  rotate_left
  · simp [go_sem, h0, h1, h2, h3, h4, h5, h6]
  simp [go_sem, h0, h1, h2, h3, h4, h5, h6]
end Go.Proofs.Ytbpaongnehgodaa
