/- ConfHas, walked (made by gen_cfhl.py). -/
import Derived.Test.YthmbpoldjddheaaCfNumd
import Derived.Test.YthmbpoldjddheaaCfHasM
import Derived.Test.YthmbpoldjddheaaCfMayPre
import Derived.Test.YthmbpoldjddheaaCfSame
namespace Go.Proofs.Ythmbpoldjddheaa
open Go.ChangeShapes Go.WideShapes Go.ChangeAt Go.RowKit
theorem has_few (c : CF) (i : Int) (hb : c.nm ≤ 9223372036854775807 ∧ c.ns ≤ 9223372036854775807 ∧ c.nc ≤ 9223372036854775807) (hs : c.small = false) (w : World) : Calls Try.prog 8 #[.agg #[.slice c.am c.nm c.cm, .slice c.au c.ns c.cs, .slice c.ac c.nc c.cc, .int .i64 c.li, .int .i64 c.ca, .int .i64 c.le, .int .i64 c.tr, .int .i64 c.bi], .int .i64 i] w (Ret (.bool true) w) := by
  have HF := Lib.hid (fun W => few10_any c hb W)
  rw [hs] at HF
  have HA := Lib.hid awake10_any
  clear hb hs
  go_enter Try.func8, Try.ntmps8
  go_wp2_with fail
  refine (HF.out _).mono ?_
  rintro e w1 ⟨rfl, h1⟩
  have HB := Lib.hid (belowB h1)
  clear h1
  go_wp2_with fail
  refine (HA.out _).mono ?_
  rintro e w2 ⟨rfl, h2⟩
  have HB2 := Lib.hid (HB.out.trans (h2.mono HB.out.size))
  clear h2
  go_wp2_with fail
  go_ret
  exact ⟨rfl, HB2.out⟩
end Go.Proofs.Ythmbpoldjddheaa
