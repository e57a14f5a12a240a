/- The page's examples hold: awake. -/
import Derived.Test.YtcclhblkchghbaaDoorMoneySum2
import Derived.Test.YtcclhblkchghbaaDoorMoneyText2
namespace Go.Proofs.YtcclhblkchghbaaDoor
open Go.ChangeShapes Go.WideShapes Go.ChangeAt Go.RowKit
/-- Three amounts. -/
def three (x y z : Int) (i : Nat) : Int := if i = 0 then x else if i = 1 then y else z
theorem three_cells (x y z : Int) (w : World) : ∀ i, i < 3 → (w.alloc (.cells #[.int .i64 x, .int .i64 y, .int .i64 z] 2)).cell? ⟨w.heap.size, 0 + i, none⟩ = some (.int .i64 (three x y z i)) := fun i hi => by
  rw [World.cell?_alloc_new, Nat.zero_add]
  rcases i with _ | _ | _ | i
  · rfl
  · rfl
  · rfl
  · omega
theorem three_bd (x y z : Int) (hx : -9223372036854775808 ≤ x ∧ x ≤ 9223372036854775807) (hy : -9223372036854775808 ≤ y ∧ y ≤ 9223372036854775807) (hz : -9223372036854775808 ≤ z ∧ z ≤ 9223372036854775807) :
    ∀ i, i < 3 → -9223372036854775808 ≤ three x y z i ∧ three x y z i ≤ 9223372036854775807 := fun i _ => by
  unfold three
  split
  · exact hx
  · split
    · exact hy
    · exact hz
set_option maxHeartbeats 1000000 in
theorem awake_any (w : World) (ht : Tab w) : Calls Tryd.prog 12 #[] w (Ret (.bool true) w) := by
  have HM := Lib.hid (msum_any (three 9223372036854775807 1 (-1)) 3 3 w.heap.size 0 (by omega) (three_bd _ _ _ (by omega) (by omega) (by omega)) (w.alloc (.cells #[.int .i64 9223372036854775807, .int .i64 1, .int .i64 (-1)] 2)) (three_cells 9223372036854775807 1 (-1) w) (by simp))
  rw [show sumTo (three 9223372036854775807 1 (-1)) 3 = 9223372036854775807 from by simp [sumTo, three], amt_in (by omega)] at HM
  have HX := Lib.hid (fun (w : World) h => text_any (-5) (by omega) w h)
  rw [show textL (-5) = [45, 48, 46, 48, 53] from by simp [textL, signL, Lib.decDigits_one]] at HX
  have HT := Lib.hid ht
  clear ht
  go_enter Tryd.func12, Tryd.ntmps12
  go_wp2_with fail
  refine HM.out.mono ?_
  rintro e w1 ⟨rfl, h1⟩
  have H1 : Hid (Below w.heap.size w w1) := ((Below.refl _ _).alloc (Nat.le_refl _) _).trans (h1.mono (by simp))
  have T1 := Lib.hid (HT.out.next H1.out)
  clear h1
  go_wp2_with fail
  refine (HX.out _ T1.out).mono ?_
  rintro e w2 ⟨rfl, h2⟩
  have H2 := Lib.hid h2
  clear h2
  unfold txt
  go_wp2
  go_ret
  exact ⟨rfl, H1.out.trans (H2.out.mono H1.out.size)⟩
end Go.Proofs.YtcclhblkchghbaaDoor
