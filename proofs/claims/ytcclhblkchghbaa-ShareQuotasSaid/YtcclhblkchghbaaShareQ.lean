/- ShareQuotas: the walk. -/
import Derived.Test.YtcclhblkchghbaaShareAwake2
import Derived.Test.YtcclhblkchghbaaShareLost2
import Derived.IntWalk
namespace Go.Proofs.Ytcclhblkchghbaa
open Go.ChangeShapes Go.WideShapes Go.ChangeAt Go.RowKit
/-- Lost, told in one. -/
def LostQ (z y : Nat → Int) (n m : Nat) (w : World) (e : Ending) (w' : World) : Prop := Below w.heap.size w w' ∧ ∃ (lo : Option Addr) (ln : Nat) (lc : Nat) (ev : Int), e = .returned (.tuple #[.slice lo ln lc, .int .i64 ev]) ∧
  ((Fits z y n m ∧ ln = n ∧ ev = 0 ∧ IntsAt w' lo n (fun i => z i - y i)) ∨ (¬ Fits z y n m ∧ ln = 0 ∧ ev = 1))
theorem lost_q (z y : Nat → Int) (n cap m cap' : Nat) (ao bo : Option Addr) (hn : n ≤ 1000000) (hm : m ≤ 1000000) (hz : ∀ i, i < n → -9223372036854775808 ≤ z i ∧ z i ≤ 9223372036854775807) (w : World) (h1 : IntsAt w ao n z) (h2 : IntsAt w bo m y) :
    Calls Try.prog 18 #[.slice ao n cap, .slice bo m cap'] w (LostQ z y n m w) := by
  refine (lost_any z y n cap m cap' ao bo hn hm hz w h1 h2).mono ?_
  rintro e w' ⟨hb, ⟨hf, g, hg, rfl, hr⟩ | ⟨hf, rfl⟩⟩
  · exact ⟨hb, _, n, n, 0, rfl, Or.inl ⟨hf, rfl, rfl, hr.ints⟩⟩
  · exact ⟨hb, none, 0, 0, 1, rfl, Or.inr ⟨hf, rfl, rfl⟩⟩
set_option maxRecDepth 100000 in
set_option maxHeartbeats 2000000 in
theorem quotas_long (x0 x1 x2 : Int) (n cap m cap' : Nat) (ao bo : Option Addr) (hn : n ≤ 9223372036854775807) (hm : m ≤ 9223372036854775807) (h : 60 < n ∨ 60 < m) (w : World) :
    Calls Try.prog 7 #[.agg #[.int .i64 x0, .int .i64 x1, .int .i64 x2], .slice ao n cap, .slice bo m cap'] w (Ret (.bool true) w) := by
  have AW := Lib.hid (fun (w : World) => awake_any w)
  have n1 : (n : Int) ≤ 9223372036854775807 := by omega
  have m1 : (m : Int) ≤ 9223372036854775807 := by omega
  by_cases h1 : 60 < n
  · have d1 : decide (60 < (n : Int)) = true := decide_eq_true (by omega)
    have d2 : decide (60 < n) = true := decide_eq_true h1
    clear h h1 hn hm
    go_enter Try.func7, Try.ntmps7
    go_wp2_with fail
    refine (AW.out _).mono ?_
    rintro e w1 ⟨rfl, h1⟩
    go_wp2
    go_ret
    exact ⟨rfl, ((Below.refl _ _).alloc (Nat.le_refl _) _).trans (h1.mono (by simp))⟩
  · have d1 : decide (60 < (n : Int)) = false := decide_eq_false (by omega)
    have d2 : decide (60 < n) = false := decide_eq_false h1
    have d3 : decide (60 < (m : Int)) = true := decide_eq_true (by omega)
    have d4 : decide (60 < m) = true := decide_eq_true (by omega)
    clear h h1 hn hm
    go_enter Try.func7, Try.ntmps7
    go_wp2_with fail
    refine (AW.out _).mono ?_
    rintro e w1 ⟨rfl, h1⟩
    go_wp2
    go_ret
    exact ⟨rfl, ((Below.refl _ _).alloc (Nat.le_refl _) _).trans (h1.mono (by simp))⟩
end Go.Proofs.Ytcclhblkchghbaa
