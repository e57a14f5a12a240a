/- ConfHas. -/
import Derived.Test.YthmbpoldjddheaaCfHasA
import Derived.Test.YthmbpoldjddheaaCfHasII
import Derived.Test.YthmbpoldjddheaaCfHasIO
import Derived.Test.YthmbpoldjddheaaCfHasOI
import Derived.Test.YthmbpoldjddheaaCfHasOO
namespace Go.Proofs.Ythmbpoldjddheaa
open Go.ChangeShapes Go.WideShapes Go.ChangeAt Go.RowKit
theorem has_any (c : CF) (i : Int) (w : World) (h : c.At w) (hf : c.nm ≤ 20 ∧ c.ns ≤ 20 ∧ c.nc ≤ 20) : Calls Try.prog 8 #[.agg #[.slice c.am c.nm c.cm, .slice c.au c.ns c.cs, .slice c.ac c.nc c.cc, .int .i64 c.li, .int .i64 c.ca, .int .i64 c.le, .int .i64 c.tr, .int .i64 c.bi], .int .i64 i] w (Ret (.bool true) w) := by
  by_cases hi : i < 1
  · exact has_low c i w h hf hi
  · obtain ⟨k, hk⟩ : ∃ k : Nat, i = (k : Int) + 1 := ⟨(i - 1).toNat, by omega⟩
    by_cases hm : k < c.nm
    · by_cases hs : k < c.ns
      · exact has_ii c i w h hf k hk hm hs
      · exact has_io c i w h hf k hk hm hs
    · by_cases hs : k < c.ns
      · exact has_oi c i w h hf k hk hm hs
      · exact has_oo c i w h hf k hk hm hs
end Go.Proofs.Ythmbpoldjddheaa
