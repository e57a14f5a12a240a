/- Package money: Neg, upper, signed, Mul; complineref01.Size. -/
import Derived.Test.YtcclhblkchghbaaDoorMoneyCode
namespace Go.Proofs.YtcclhblkchghbaaDoor
open Go.ChangeShapes Go.WideShapes Go.ChangeAt Go.RowKit
set_option maxHeartbeats 400000 in
theorem neg_any (a : Int) (ha : -9223372036854775808 ≤ a ∧ a ≤ 9223372036854775807) (w : World) : Calls Tryd.prog 16 #[.int .i64 a] w (RetS (amt (-a)) w) := by
  have h := fun (w : World) => sub_any 0 a (by omega) ha w
  rw [Int.zero_sub] at h
  have H := Lib.hid h
  have HC : Hid (∃ (n : Int) (e : Int), amt (-a) = .tuple #[.int .i64 n, .int .i64 e]) := by
    show ∃ (n : Int) (e : Int), amt (-a) = .tuple #[.int .i64 n, .int .i64 e]
    unfold amt
    split
    · exact ⟨_, _, rfl⟩
    · exact ⟨_, _, rfl⟩
  obtain ⟨n, e, he⟩ := HC.out
  rw [he] at H ⊢
  clear HC he h ha
  go_enter Tryd.func16, Tryd.ntmps16
  go_wp2_with fail
  refine (H.out _).mono ?_
  rintro e w1 ⟨rfl, rfl⟩
  go_wp2_with fail
  go_ret2
  exact ⟨rfl, rfl⟩
theorem refsize_neg {a : Int} (h : a < 0) : -(a + 1) + 1 = ((a.natAbs : Nat) : Int) := by omega
theorem refsize_pos {a : Int} (h : ¬ a < 0) : a = ((a.natAbs : Nat) : Int) := by omega
set_option maxHeartbeats 400000 in
theorem refsize_any (a : Int) (ha : -9223372036854775808 ≤ a ∧ a ≤ 9223372036854775807) (w : World) : Calls Tryd.prog 18 #[.int .i64 a] w (RetS (.int .u64 (a.natAbs : Nat)) w) := by
  have h1 := ha.1
  have h2 := ha.2
  clear ha
  by_cases h : a < 0
  · have HE := Lib.hid (refsize_neg h)
    go_enter Tryd.func18, Tryd.ntmps18
    go_wp2
    go_ret
    exact ⟨by rw [← HE.out]; rfl, rfl⟩
  · obtain ⟨n, rfl⟩ := Int.eq_ofNat_of_zero_le (show 0 ≤ a by omega)
    rw [Int.natAbs_natCast]
    clear h
    go_enter Tryd.func18, Tryd.ntmps18
    go_wp2
    go_ret
    exact ⟨rfl, rfl⟩
/-- So far from 0, on one side or the other. -/
def sgn (n : Nat) (below : Bool) : Int := if below then -(n : Int) else n
theorem neg_wrap {n : Nat} (h : n ≤ 9223372036854775808) : wrap64 (-wrap64 (n : Int)) = -(n : Int) := by unfold wrap64; omega
set_option maxHeartbeats 400000 in
theorem signed_any (n : Nat) (below : Bool) (w : World) :
    Calls Tryd.prog 27 #[.int .u64 n, .bool below] w (RetS (amt (sgn n below)) w) := by
  cases below
  · by_cases h : n ≤ 9223372036854775807
    · have HV := Lib.hid (show amt (sgn n false) = .tuple #[.int .i64 n, .int .i64 0] from amt_in (by simp only [sgn]; simp; omega))
      have d1 : decide (9223372036854775807 < (n : Int)) = false := by simp; omega
      have d2 : (n : Int) ≤ 9223372036854775807 := by omega
      clear h
      go_enter Tryd.func27, Tryd.ntmps27
      go_wp2
      go_ret2
      exact ⟨by rw [HV.out]; rfl, rfl⟩
    · have HV := Lib.hid (show amt (sgn n false) = .tuple #[.int .i64 0, .int .i64 2] from amt_out (by simp only [sgn]; simp; omega))
      have d1 : decide (9223372036854775807 < (n : Int)) = true := by simp; omega
      clear h
      go_enter Tryd.func27, Tryd.ntmps27
      go_wp2
      go_ret2
      exact ⟨by rw [HV.out]; rfl, rfl⟩
  · by_cases h : n ≤ 9223372036854775808
    · have HV := Lib.hid (show amt (sgn n true) = .tuple #[.int .i64 (-(n : Int)), .int .i64 0] from amt_in (by simp only [sgn]; simp; omega))
      have HW := Lib.hid (neg_wrap h)
      have d1 : decide (9223372036854775808 < (n : Int)) = false := by simp; omega
      clear h
      go_enter Tryd.func27, Tryd.ntmps27
      go_wp2
      go_ret2
      exact ⟨by rw [HV.out, ← HW.out]; rfl, rfl⟩
    · have HV := Lib.hid (show amt (sgn n true) = .tuple #[.int .i64 0, .int .i64 2] from amt_out (by simp only [sgn]; simp; omega))
      have d1 : decide (9223372036854775808 < (n : Int)) = true := by simp; omega
      clear h
      go_enter Tryd.func27, Tryd.ntmps27
      go_wp2
      go_ret2
      exact ⟨by rw [HV.out]; rfl, rfl⟩
end Go.Proofs.YtcclhblkchghbaaDoor
