/- same: is a wide number the document's? -/
import Derived.Test.YtphjpbfahlhliaaWideLaws
namespace Go.Proofs.Ytphjpbfahlhliaa
open Go.ChangeShapes Go.WideShapes Go.ChangeAt Go.RowKit
set_option maxHeartbeats 400000 in
theorem same_yes (N : Nat) (hN : N < 340282366920938463463374607431768211456) (w : World) :
    Calls Try.prog 9 #[wv N, numV N] w (Ret (.bool true) w) := by
  have H := Lib.hid (fun (w : World) => words_any N hN w)
  unfold wv
  obtain ⟨h, hh⟩ : ∃ h, h = N / 18446744073709551616 := ⟨_, rfl⟩
  obtain ⟨l, hl⟩ : ∃ l, l = N % 18446744073709551616 := ⟨_, rfl⟩
  rw [← hh, ← hl] at H ⊢
  clear hh hl hN
  unfold numV at H ⊢
  have g1 : ((h : Int) == h) = true := by rw [beq_iff_eq]
  have g2 : ((l : Int) == l) = true := by rw [beq_iff_eq]
  go_enter Try.func9, Try.ntmps9
  go_wp2_with fail
  refine (H.out _).mono ?_
  rintro e w1 ⟨rfl, h1⟩
  have c1 : w1.cell? ⟨w.heap.size, 0, none⟩ = some (.int .u64 h) := by rw [h1.cell (by simp; omega)]; go_cell
  have c2 : w1.cell? ⟨w.heap.size, 1, none⟩ = some (.int .u64 l) := by rw [h1.cell (by simp; omega)]; go_cell
  go_wp2
  go_returns
  have b1 := ((Below.refl _ w).alloc (Nat.le_refl _) (.cells #[.int .u64 (h : Nat), .int .u64 (l : Nat)] 30)).alloc (by simp) (.cells #[.int .u64 (dg N 0 : Nat), .int .u64 (dg N 1 : Nat), .int .u64 (dg N 2 : Nat), .int .u64 (dg N 3 : Nat), .int .u64 (dg N 4 : Nat), .int .u64 (dg N 5 : Nat), .int .u64 (dg N 6 : Nat), .int .u64 (dg N 7 : Nat)] 25)
  exact ⟨rfl, b1.trans (h1.mono b1.size)⟩
end Go.Proofs.Ytphjpbfahlhliaa
