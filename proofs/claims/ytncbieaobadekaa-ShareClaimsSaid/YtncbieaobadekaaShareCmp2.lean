/- The comparator of byRest reads the boxed remainders. -/
import Derived.Test.YtncbieaobadekaaShareRow
import Derived.Test.YtncbieaobadekaaSort4
import Derived.Test.YtncbieaobadekaaSCmp
namespace Go.Proofs.Ytncbieaobadekaa
open Go.ChangeShapes Go.WideShapes Go.ChangeAt Go.RowKit
theorem byRest1_any (z : Nat → Int) (n cap r off p x y : Nat) (hn : n ≤ 1000000) (hx : x < n) (hy : y < n) (w : World) (hp : w.cell? ⟨p, 0, none⟩ = some (.slice (some ⟨r, off, none⟩) n cap)) (hc : ∀ i, i < n → w.cell? ⟨r, off + i, none⟩ = some (.int .i64 (z i))) :
    Calls Try.prog 94 #[.int .i64 x, .int .i64 y, .pointer (some ⟨p, 0, none⟩)] w (fun e w' => e = .returned (.int .i64 (cmp3 (z y) (z x))) ∧ ∃ q, w' = w.drewN q) := by
  have C : ∀ q : Nat, Calls Try.prog 82 #[.int .i64 (z y), .int .i64 (z x)] (w.drewN q) (fun e w' => e = .returned (.int .i64 (cmp3 (z y) (z x))) ∧ ∃ k, w' = (w.drewN q).drewN k) := fun q => (compare_any (z y) (z x) _).mono fun e w' h => ⟨h.1, 0, h.2 ▸ rfl⟩
  have HC := Lib.hid C
  have c1 := hc x hx
  have c2 := hc y hy
  have x1 : (x : Int) < n := by omega
  have y1 : (y : Int) < n := by omega
  have n1 : (n : Int) ≤ 1000000 := by omega
  clear hc hx hy hn C
  generalize cmp3 (z y) (z x) = c at *
  generalize z x = u at *
  generalize z y = v at *
  go_enter Try.func94, Try.ntmps94
  go_wp2_with fail
  go_quiet ((go_at_call 82; exact Calls.quiet_of (HC.out _)))
  go_wp2
  go_ret
  exact ⟨rfl, _, rfl⟩
end Go.Proofs.Ytncbieaobadekaa
