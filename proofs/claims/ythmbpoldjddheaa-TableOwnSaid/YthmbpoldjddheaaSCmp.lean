/- cmp.Compare at int64. -/
import Derived.Test.YthmbpoldjddheaaNBase
namespace Go.Proofs.Ythmbpoldjddheaa
open Go.ChangeShapes Go.WideShapes Go.ChangeAt Go.RowKit
def cmp3 (x y : Int) : Int := if x < y then -1 else if y < x then 1 else 0
theorem nan_any (x : Int) (w : World) : Calls Try.prog 94 #[.int .i64 x] w (RetS (.bool false) w) := by
  have b1 : (x != x) = false := by simp
  go_enter Try.func94, Try.ntmps94
  go_wp2
  go_ret
  exact ⟨rfl, rfl⟩
theorem compare_any (x y : Int) (w : World) : Calls Try.prog 75 #[.int .i64 x, .int .i64 y] w (RetS (.int .i64 (cmp3 x y)) w) := by
  have N := Lib.hid (fun (x : Int) (w : World) => nan_any x w)
  by_cases h1 : x < y
  · have e : cmp3 x y = -1 := if_pos h1
    have d1 := decide_eq_true h1
    rw [e]
    clear h1 e
    go_enter Try.func75, Try.ntmps75
    go_wp2_with fail
    refine (N.out _ _).mono ?_
    rintro e w1 ⟨rfl, rfl⟩
    go_wp2_with fail
    refine (N.out _ _).mono ?_
    rintro e w1 ⟨rfl, rfl⟩
    go_wp2_with fail
    go_ret
    exact ⟨rfl, rfl⟩
  · have d1 := decide_eq_false h1
    by_cases h2 : y < x
    · have e : cmp3 x y = 1 := by rw [cmp3, if_neg h1, if_pos h2]
      have d2 := decide_eq_true h2
      rw [e]
      clear h1 h2 e
      go_enter Try.func75, Try.ntmps75
      go_wp2_with fail
      refine (N.out _ _).mono ?_
      rintro e w1 ⟨rfl, rfl⟩
      go_wp2_with fail
      refine (N.out _ _).mono ?_
      rintro e w1 ⟨rfl, rfl⟩
      go_wp2_with fail
      go_ret
      exact ⟨rfl, rfl⟩
    · have e : cmp3 x y = 0 := by rw [cmp3, if_neg h1, if_neg h2]
      have d2 := decide_eq_false h2
      rw [e]
      clear h1 h2 e
      go_enter Try.func75, Try.ntmps75
      go_wp2_with fail
      refine (N.out _ _).mono ?_
      rintro e w1 ⟨rfl, rfl⟩
      go_wp2_with fail
      refine (N.out _ _).mono ?_
      rintro e w1 ⟨rfl, rfl⟩
      go_wp2_with fail
      go_ret
      exact ⟨rfl, rfl⟩
end Go.Proofs.Ythmbpoldjddheaa
