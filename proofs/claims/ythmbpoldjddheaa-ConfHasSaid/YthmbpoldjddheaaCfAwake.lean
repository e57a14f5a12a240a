/- The page's example of a plain config. -/
import Derived.Test.YthmbpoldjddheaaCfCheck
import Derived.Test.YthmbpoldjddheaaCfPlain
namespace Go.Proofs.Ythmbpoldjddheaa
open Go.ChangeShapes Go.WideShapes Go.ChangeAt Go.RowKit
set_option maxHeartbeats 8000000 in
set_option maxRecDepth 100000 in
theorem awake10_any (w : World) : Calls Try.prog 36 #[] w (Ret (.bool true) w) := by
  have HP : Hid (Calls Try.prog 46 #[.int .i64 2, .int .i64 1, .int .i64 1] w (fun e w' => Below w.heap.size w w' ∧ ∃ am au ac cm cs cc, e = .returned (.agg #[.slice am 2 cm, .slice au 1 cs, .slice ac 1 cc, .int .i64 500, .int .i64 200, .int .i64 1, .int .i64 64, .int .i64 32]) ∧ (plainC am au ac 2 cm 1 cs 1 cc).At w')) := by
    have h := plain_any 2 1 1 w
    rwa [show nr 2 2 16 = 2 from rfl, show nr 1 1 8 = 1 from rfl, show nr 1 1 4 = 1 from rfl] at h
  go_enter Try.func36, Try.ntmps36
  go_wp2_with fail
  refine HP.out.mono ?_
  rintro e w1 ⟨hb1, am, au, ac, cm, cs, cc, rfl, hat⟩
  have HB1 := Lib.hid hb1
  have hb := (Below.refl w1.heap.size w1).alloc (Nat.le_refl _) (.cells #[.slice am 2 cm, .slice au 1 cs, .slice ac 1 cc, .int .i64 500, .int .i64 200, .int .i64 1, .int .i64 64, .int .i64 32] 67)
  have HAT := Lib.hid (hat.below hb)
  have HB2 : Hid (Below w.heap.size w (w1.alloc (.cells #[.slice am 2 cm, .slice au 1 cs, .slice ac 1 cc, .int .i64 500, .int .i64 200, .int .i64 1, .int .i64 64, .int .i64 32] 67))) := hb1.trans (hb.mono hb1.size)
  have HC : Hid ((w1.alloc (.cells #[.slice am 2 cm, .slice au 1 cs, .slice ac 1 cc, .int .i64 500, .int .i64 200, .int .i64 1, .int .i64 64, .int .i64 32] 67)).heap[w1.heap.size]? = some (.cells #[.slice am 2 cm, .slice au 1 cs, .slice ac 1 cc, .int .i64 500, .int .i64 200, .int .i64 1, .int .i64 64, .int .i64 32] 67 (0, 0))) := heap_alloc_new _ _
  have HTK := Lib.hid (ticks_any am au ac 2 cm 1 cs 1 cc 500 200 1 64 32 (fun i => 10 * (i : Int) + 4) (fun i => 10 * (i : Int) + 7) (fun i => 10 * (i : Int) + 9) (fun i => 10 * (i : Int) + 10) (by decide) (w1.alloc (.cells #[.slice am 2 cm, .slice au 1 cs, .slice ac 1 cc, .int .i64 500, .int .i64 200, .int .i64 1, .int .i64 64, .int .i64 32] 67)) HAT.out.y)
  clear hb1 hb hat HP
  go_wp2_with fail
  refine HTK.out.mono ?_
  rintro e w2 ⟨hb3, ao, cap, rfl, ho⟩
  obtain ⟨g, off, rfl, hg, hc⟩ := ho (by decide)
  have t0 : w2.cell? ⟨g, off, none⟩ = some (.int .i64 4) := hc 0 (by decide)
  have t3 : w2.cell? ⟨g, off + 3, none⟩ = some (.int .i64 10) := hc 3 (by decide)
  obtain ⟨x0, x1, x2, x3, x4, x5, x6, x7⟩ := eight_read (keepB HC.out hb3)
  have HAT2 := Lib.hid (HAT.out.below hb3)
  have HC2 := Lib.hid (keepB HC.out hb3)
  have HB3 := Lib.hid (HB2.out.trans (hb3.mono HB2.out.size))
  have HCK : Hid (Calls Try.prog 40 #[.agg #[.slice am 2 cm, .slice au 1 cs, .slice ac 1 cc, .int .i64 500, .int .i64 200, .int .i64 1, .int .i64 64, .int .i64 32]] w2 (Ret (.int .i64 0) w2)) := check10_ok (plainC am au ac 2 cm 1 cs 1 cc) w2 HAT2.out (plain_word am au ac 2 cm 1 cs 1 cc (by decide) (by decide) (by decide))
  clear hb3 ho hc hg HTK HB2 HC HAT HB1
  go_wp2_with fail
  refine HCK.out.mono ?_
  rintro e w3 ⟨rfl, h3⟩
  have HB4 := Lib.hid (HB3.out.trans (h3.mono HB3.out.size))
  obtain ⟨u0, u1, u2, u3, u4, u5, u6, u7⟩ := eight_read (keepB HC2.out h3)
  have HAT3 := Lib.hid (HAT2.out.below h3)
  have HLA := Lib.hid (show Calls Try.prog 41 #[.agg #[.slice am 2 cm, .slice au 1 cs, .slice ac 1 cc, .int .i64 500, .int .i64 200, .int .i64 1, .int .i64 64, .int .i64 32]] w3 (Ret (.int .i64 10) w3) from last_any (plainC am au ac 2 cm 1 cs 1 cc) w3 HAT3.out (show 0 < 1 by decide))
  clear h3
  go_wp2_with fail
  refine HLA.out.mono ?_
  rintro e w4 ⟨rfl, h4⟩
  have HB5 := Lib.hid (HB4.out.trans (h4.mono HB4.out.size))
  clear h4
  go_wp2_with fail
  go_ret
  exact ⟨rfl, HB5.out⟩
end Go.Proofs.Ythmbpoldjddheaa
