/- The document's Has. -/
import Derived.Test.YtbpaongnehgodaaCoRef1
namespace Go.Proofs.Ytbpaongnehgodaa
open Go.ChangeShapes Go.WideShapes Go.ChangeAt Go.RowKit
set_option maxHeartbeats 20000000 in
theorem rhas_in (n : Nat) (h : 1 ≤ n ∧ n ≤ 10) (w : World) : Calls Try.prog 26 #[.int .i64 (n : Int)] w (Ret (txt (letsN n)) w) := by
  obtain ⟨h1, h2⟩ := h
  have : n = 1 ∨ n = 2 ∨ n = 3 ∨ n = 4 ∨ n = 5 ∨ n = 6 ∨ n = 7 ∨ n = 8 ∨ n = 9 ∨ n = 10 := by omega
  clear h1 h2
  rcases this with rfl | rfl | rfl | rfl | rfl | rfl | rfl | rfl | rfl | rfl <;>
  · go_enter Try.func26, Try.ntmps26
    go_wp2_with fail
    go_ret
    exact ⟨rfl, by go_grown⟩
theorem rhas_out (k : Int) (h : ¬ (1 ≤ k ∧ k ≤ 10)) (w : World) : Calls Try.prog 26 #[.int .i64 k] w (Ret (txt [63]) w) := by
  by_cases h1 : k < 1
  · have d1 := decide_eq_true h1
    clear h h1
    go_enter Try.func26, Try.ntmps26
    go_wp2_with fail
    go_ret
    exact ⟨rfl, by go_grown⟩
  · have d1 := decide_eq_false h1
    have d2 : decide (10 < k) = true := decide_eq_true (by omega)
    clear h h1
    go_enter Try.func26, Try.ntmps26
    go_wp2_with fail
    go_ret
    exact ⟨rfl, by go_grown⟩
end Go.Proofs.Ytbpaongnehgodaa
