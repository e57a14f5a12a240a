/- The page's example of a disk, and the three laws' common parts. -/
import Derived.Test.YthmbpoldjddheaaDskWrite
import Derived.Test.YthmbpoldjddheaaDskCrash
namespace Go.Proofs.Ythmbpoldjddheaa
open Go.ChangeShapes Go.WideShapes Go.ChangeAt Go.RowKit
theorem four_set {w : World} {g : Nat} {a b c d : Value} {ty : TypeId} (h : w.heap[g]? = some (.cells #[a, b, c, d] ty (0, 0))) (x y z u : Value) :
    ((((w.setCell ⟨g, 0, none⟩ x).setCell ⟨g, 1, none⟩ y).setCell ⟨g, 2, none⟩ z).setCell ⟨g, 3, none⟩ u).heap[g]? = some (.cells #[x, y, z, u] ty (0, 0)) :=
  db_set (i := 3) (v := u) (db_set (i := 2) (v := z) (db_set (i := 1) (v := y) (db_set (i := 0) (v := x) h rfl) rfl) rfl) rfl
set_option maxHeartbeats 4000000 in
set_option maxRecDepth 100000 in
theorem awake9_any (w : World) : Calls Try.prog 24 #[] w (Ret (.bool true) w) := by
  have H1 : Hid (∀ W, Calls Try.prog 25 #[.agg #[.string ⟨#[]⟩, .string ⟨#[]⟩, .int .i64 1, .bool false], .string ⟨#[97, 98]⟩] W (Ret (.tuple #[.agg #[.string ⟨#[]⟩, .string ⟨#[97, 98]⟩, .int .i64 0, .bool false], .int .i64 0]) W)) := fun W => dwrite_any ⟨#[]⟩ ⟨#[]⟩ 1 false ⟨by decide, by decide⟩ (by decide) ⟨#[97, 98]⟩ (by decide) W
  have H2 : Hid (∀ W, Calls Try.prog 25 #[.agg #[.string ⟨#[]⟩, .string ⟨#[97, 98]⟩, .int .i64 0, .bool false], .string ⟨#[99, 100]⟩] W (Ret (.tuple #[.agg #[.string ⟨#[]⟩, .string ⟨#[97, 98, 99, 100]⟩, .int .i64 0, .bool true], .int .i64 16]) W)) := fun W => dwrite_any ⟨#[]⟩ ⟨#[97, 98]⟩ 0 false ⟨by decide, by decide⟩ (by decide) ⟨#[99, 100]⟩ (by decide) W
  have H3 : Hid (∀ W, Calls Try.prog 31 #[.agg #[.string ⟨#[]⟩, .string ⟨#[97, 98, 99, 100]⟩, .int .i64 0, .bool true], .int .i64 3] W (Ret (.tuple #[.agg #[.string ⟨#[97, 98, 99]⟩, .string ⟨#[]⟩, .int .i64 (-1), .bool false], .int .i64 0]) W)) := fun W => dcrash_any ⟨#[]⟩ ⟨#[97, 98, 99, 100]⟩ 0 true ⟨by decide, by decide⟩ 3 W
  go_enter Try.func24, Try.ntmps24
  go_wp2_with fail
  refine (H1.out _).mono ?_
  rintro e w1 ⟨rfl, h1⟩
  have HB := Lib.hid h1
  clear h1
  go_wp2_with fail
  refine (H2.out _).mono ?_
  rintro e w2 ⟨rfl, h2⟩
  have hx := box_kept h2
  have HB2 := Lib.hid (HB.out.trans ((below_box h2).mono HB.out.size))
  have HX := Lib.hid hx
  obtain ⟨i0, i1, i2, i3⟩ := four_read hx
  have j0 := four_free hx 0
  have j1 := four_free hx 1
  have j2 := four_free hx 2
  have j3 := four_free hx 3
  have hy := four_set hx (.string ⟨#[]⟩) (.string ⟨#[97, 98, 99, 100]⟩) (.int .i64 0) (.bool true)
  obtain ⟨f0, f1, f2, f3⟩ := four_read hy
  have HBX : Hid (w.heap.size ≤ w1.heap.size) := HB.out.size
  have HY := Lib.hid hy
  have HB3 := Lib.hid (below_four HB2.out HBX.out (.string ⟨#[]⟩) (.string ⟨#[97, 98, 99, 100]⟩) (.int .i64 0) (.bool true))
  clear h2 hx hy HB HB2
  go_wp2_with fail
  refine (H3.out _).mono ?_
  rintro e w3 ⟨rfl, h3⟩
  have hz := (h3.block w1.heap.size (lt_of_block HY.out)).trans HY.out
  have HB4 := Lib.hid (HB3.out.trans (h3.mono HB3.out.size))
  obtain ⟨m0, m1, m2, m3⟩ := four_read hz
  have l0 := four_free hz 0
  have l1 := four_free hz 1
  have l2 := four_free hz 2
  have l3 := four_free hz 3
  have hv := four_set hz (.string ⟨#[97, 98, 99]⟩) (.string ⟨#[]⟩) (.int .i64 (-1)) (.bool false)
  obtain ⟨r0, r1, r2, r3⟩ := four_read hv
  have HB5 := Lib.hid (below_four HB4.out HBX.out (.string ⟨#[97, 98, 99]⟩) (.string ⟨#[]⟩) (.int .i64 (-1)) (.bool false))
  clear h3 hz hv HY HB3 HB4 HX i0 i1 i2 i3 j0 j1 j2 j3 f0 f1 f2 f3
  go_wp2_with fail
  go_ret
  exact ⟨rfl, HB5.out⟩
end Go.Proofs.Ythmbpoldjddheaa
