/- Package money: Add, Sub, Least, Over, Size, upper: for all amounts. -/
import Derived.Test.YtcclhblkchghbaaDoorRows
import Derived.WalkKit
import Derived.ProofKit
import Derived.OpenShut
import Derived.Handy
import Derived.Lib.Hide
import Derived.WalkLawsBesides
import Derived.Deep.QuietTactic
import Derived.BigQuiet
import Derived.Deep.Cut
namespace Go.Proofs.YtcclhblkchghbaaDoor
open Go.ChangeShapes Go.WideShapes Go.ChangeAt Go.RowKit
def Ret (v : Value) (w : World) (e : Ending) (w' : World) : Prop := e = .returned v ∧ Below w.heap.size w w'
/-- It returns v, and the world is as it was. -/
def RetS (v : Value) (w : World) (e : Ending) (w' : World) : Prop := e = .returned v ∧ w = w'
/-- An amount, or that it is none. -/
def amt (n : Int) : Value := if -9223372036854775808 ≤ n ∧ n ≤ 9223372036854775807 then .tuple #[.int .i64 n, .int .i64 0] else .tuple #[.int .i64 0, .int .i64 2]
theorem amt_in {n : Int} (h : -9223372036854775808 ≤ n ∧ n ≤ 9223372036854775807) : amt n = .tuple #[.int .i64 n, .int .i64 0] := by rw [amt, if_pos h]
theorem amt_out {n : Int} (h : ¬ (-9223372036854775808 ≤ n ∧ n ≤ 9223372036854775807)) : amt n = .tuple #[.int .i64 0, .int .i64 2] := by rw [amt, if_neg h]
theorem wrap_cases (n : Int) (h : -18446744073709551616 ≤ n ∧ n ≤ 18446744073709551615) : (wrap64 n = n ∧ -9223372036854775808 ≤ n ∧ n ≤ 9223372036854775807) ∨ (wrap64 n = n - 18446744073709551616 ∧ 9223372036854775808 ≤ n) ∨ (wrap64 n = n + 18446744073709551616 ∧ n < -9223372036854775808) := by
  unfold wrap64
  omega
theorem ret_amt_in {n s : Int} {w : World} (h : s = n) (h1 : -9223372036854775808 ≤ n) (h2 : n ≤ 9223372036854775807) : RetS (amt n) w (.returned (.tuple #[.int .i64 s, .int .i64 0])) w := ⟨by rw [amt_in ⟨h1, h2⟩, h], rfl⟩
theorem ret_amt_out {n : Int} {w : World} (h : n < -9223372036854775808 ∨ 9223372036854775807 < n) : RetS (amt n) w (.returned (.tuple #[.int .i64 0, .int .i64 2])) w := ⟨by rw [amt_out (by omega)], rfl⟩
set_option maxHeartbeats 400000 in
theorem add_any (a b : Int) (ha : -9223372036854775808 ≤ a ∧ a ≤ 9223372036854775807) (hb : -9223372036854775808 ≤ b ∧ b ≤ 9223372036854775807) (w : World) :
    Calls Tryd.prog 8 #[.int .i64 a, .int .i64 b] w (RetS (amt (a + b)) w) := by
  have HW := Lib.hid (wrap_cases (a + b) (by omega))
  have HA := Lib.hid ha
  have HB := Lib.hid hb
  obtain ⟨s, hs⟩ : ∃ s, wrap64 (a + b) = s := ⟨_, rfl⟩
  rw [hs] at HW
  have HS := Lib.hid hs
  clear hs ha hb
  go_enter Tryd.func8, Tryd.ntmps8
  go_upto_region 2 with (fail)
  rw [HS.out]
  by_cases ca : a < 0 <;> by_cases cb : b < 0 <;> by_cases cs : s < 0
  all_goals
    go_wp2
    go_ret2
    have h1 := HW.out
    have h2 := HA.out
    have h3 := HB.out
    first
      | exact ret_amt_in (by omega) (by omega) (by omega)
      | exact ret_amt_out (by omega)
set_option maxHeartbeats 400000 in
theorem sub_any (a b : Int) (ha : -9223372036854775808 ≤ a ∧ a ≤ 9223372036854775807) (hb : -9223372036854775808 ≤ b ∧ b ≤ 9223372036854775807) (w : World) :
    Calls Tryd.prog 10 #[.int .i64 a, .int .i64 b] w (RetS (amt (a - b)) w) := by
  have HW := Lib.hid (wrap_cases (a - b) (by omega))
  have HA := Lib.hid ha
  have HB := Lib.hid hb
  obtain ⟨s, hs⟩ : ∃ s, wrap64 (a - b) = s := ⟨_, rfl⟩
  rw [hs] at HW
  have HS := Lib.hid hs
  clear hs ha hb
  go_enter Tryd.func10, Tryd.ntmps10
  go_upto_region 2 with (fail)
  rw [HS.out]
  by_cases ca : a < 0 <;> by_cases cb : b < 0 <;> by_cases cs : s < 0
  all_goals
    go_wp2
    go_ret2
    have h1 := HW.out
    have h2 := HA.out
    have h3 := HB.out
    first
      | exact ret_amt_in (by omega) (by omega) (by omega)
      | exact ret_amt_out (by omega)
set_option maxHeartbeats 400000 in
theorem least_any (a b : Int) (w : World) : Calls Tryd.prog 13 #[.int .i64 a, .int .i64 b] w (RetS (.int .i64 (if a ≤ b then a else b)) w) := by
  by_cases h : a ≤ b
  · rw [if_pos h]
    by_cases h2 : a = b
    · subst h2
      go_enter Tryd.func13, Tryd.ntmps13
      go_wp2
      all_goals
        go_returns
        exact ⟨rfl, rfl⟩
    · have h3 : a < b := by omega
      go_enter Tryd.func13, Tryd.ntmps13
      go_wp2
      all_goals
        go_returns
        exact ⟨rfl, rfl⟩
  · rw [if_neg h]
    have h3 : b < a := by omega
    go_enter Tryd.func13, Tryd.ntmps13
    go_wp2
    all_goals
      go_returns
      exact ⟨rfl, rfl⟩
theorem size_neg {a : Int} (h : a < 0) (ha : -9223372036854775808 ≤ a ∧ a ≤ 9223372036854775807) : IntKind.u64.wrap (-IntKind.u64.wrap a) = ((a.natAbs : Nat) : Int) := by
  rw [IntKind.wrap_u64, IntKind.wrap_u64]
  omega
theorem size_pos {a : Int} (h : ¬ a < 0) (ha : -9223372036854775808 ≤ a ∧ a ≤ 9223372036854775807) : IntKind.u64.wrap a = ((a.natAbs : Nat) : Int) := by
  rw [IntKind.wrap_u64]
  omega
set_option maxHeartbeats 400000 in
theorem size_any (a : Int) (ha : -9223372036854775808 ≤ a ∧ a ≤ 9223372036854775807) (w : World) : Calls Tryd.prog 17 #[.int .i64 a] w (RetS (.int .u64 (a.natAbs : Nat)) w) := by
  by_cases h : a < 0
  · have HE := Lib.hid (size_neg h ha)
    clear ha
    go_enter Tryd.func17, Tryd.ntmps17
    go_wp2
    go_ret
    exact ⟨by rw [← HE.out]; rfl, rfl⟩
  · have HE := Lib.hid (size_pos h ha)
    clear ha
    go_enter Tryd.func17, Tryd.ntmps17
    go_wp2
    go_ret
    exact ⟨by rw [← HE.out]; rfl, rfl⟩
/-- By how much a is above b. -/
def overN (a b : Int) : Int := if a ≤ b then 0 else if a - b ≤ 9223372036854775807 then a - b else 9223372036854775807
set_option maxHeartbeats 400000 in
theorem over_any (a b : Int) (ha : -9223372036854775808 ≤ a ∧ a ≤ 9223372036854775807) (hb : -9223372036854775808 ≤ b ∧ b ≤ 9223372036854775807) (w : World) :
    Calls Tryd.prog 11 #[.int .i64 a, .int .i64 b] w (RetS (.int .i64 (overN a b)) w) := by
  have H := Lib.hid (fun (w : World) => sub_any a b ha hb w)
  by_cases h : a ≤ b
  · have HO := Lib.hid (show overN a b = 0 from if_pos h)
    go_enter Tryd.func11, Tryd.ntmps11
    go_wp2_with fail
    go_returns
    exact ⟨by rw [HO.out]; rfl, rfl⟩
  · by_cases h2 : a - b ≤ 9223372036854775807
    · have HO := Lib.hid (show overN a b = a - b by rw [overN, if_neg h, if_pos h2])
      rw [amt_in (by omega)] at H
      generalize a - b = d at *
      clear ha hb h2
      go_enter Tryd.func11, Tryd.ntmps11
      go_wp2_with fail
      refine (H.out _).mono ?_
      rintro e w1 ⟨rfl, rfl⟩
      go_wp2_with fail
      go_returns
      exact ⟨by rw [HO.out]; rfl, rfl⟩
    · have HO := Lib.hid (show overN a b = 9223372036854775807 by rw [overN, if_neg h, if_neg h2])
      rw [amt_out (by omega)] at H
      clear ha hb h2
      go_enter Tryd.func11, Tryd.ntmps11
      go_wp2_with fail
      refine (H.out _).mono ?_
      rintro e w1 ⟨rfl, rfl⟩
      go_wp2_with fail
      go_returns
      exact ⟨by rw [HO.out]; rfl, rfl⟩
end Go.Proofs.YtcclhblkchghbaaDoor
