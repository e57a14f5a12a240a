/- The document's numbers of eight digits (complineref02): what each of its functions tells. -/
import Derived.Test.YtncbieaobadekaaSBase
import Derived.Test.YtncbieaobadekaaWideMath
import Derived.WalkKit
import Derived.ProofKit
import Derived.OpenShut
import Derived.Handy
namespace Go.Proofs.Ytncbieaobadekaa
open Go.ChangeShapes Go.WideShapes Go.ChangeAt Go.RowKit
set_option maxHeartbeats 400000 in
theorem of_any (hi lo : Nat) (h1 : hi < 18446744073709551616) (h2 : lo < 18446744073709551616) (w : World) :
    Calls Try.prog 58 #[.int .u64 hi, .int .u64 lo] w (Ret (numV (hi * 18446744073709551616 + lo)) w) := by
  have g1 : (hi : Int) ≤ 18446744073709551615 := by omega
  have g2 : (lo : Int) ≤ 18446744073709551615 := by omega
  go_enter Try.func58, Try.ntmps58
  go_wp2
  go_rounds 5
  go_returns
  refine ⟨?_, by go_grown⟩
  rw [of_dg hi lo h1 h2]
  simp (disch := omega) only [and16i]
theorem of_lo (lo : Nat) (h2 : lo < 18446744073709551616) (w : World) :
    Calls Try.prog 58 #[.int .u64 0, .int .u64 lo] w (Ret (numV lo) w) := by
  have h := of_any 0 lo (by omega) h2 w
  rw [show 0 * 18446744073709551616 + lo = lo from by omega] at h
  exact h
end Go.Proofs.Ytncbieaobadekaa
