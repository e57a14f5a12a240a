/- complineref02.Cmp, Plus and Words: for all numbers of eight digits. -/
import Derived.Test.YtncbieaobadekaaSWideRefs
import Derived.RegionTactic
import Derived.ChangeAlike
import Derived.BigRegion
import Derived.Deep.QuietTactic
import Derived.BigQuiet
import Derived.Lib.Hide
import Derived.WalkSmall
namespace Go.Proofs.Ytncbieaobadekaa
open Go.ChangeShapes Go.WideShapes Go.ChangeAt Go.RowKit
theorem ret_of {k : IntKind} {a b : Int} {w w' : World} (h : b = a) (hb : Below w.heap.size w w') : Ret (.int k b) w (.returned (.int k a)) w' := ⟨by rw [h], hb⟩
set_option maxHeartbeats 1000000 in
theorem cmp_dig (a0 a1 a2 a3 a4 a5 a6 a7 b0 b1 b2 b3 b4 b5 b6 b7 : Nat) (ha0 : a0 < 65536) (ha1 : a1 < 65536) (ha2 : a2 < 65536) (ha3 : a3 < 65536) (ha4 : a4 < 65536) (ha5 : a5 < 65536) (ha6 : a6 < 65536) (hb0 : b0 < 65536) (hb1 : b1 < 65536) (hb2 : b2 < 65536) (hb3 : b3 < 65536) (hb4 : b4 < 65536) (hb5 : b5 < 65536) (hb6 : b6 < 65536) (w : World) :
    Calls Try.prog 56 #[.agg #[.int .u64 a0, .int .u64 a1, .int .u64 a2, .int .u64 a3, .int .u64 a4, .int .u64 a5, .int .u64 a6, .int .u64 a7], .agg #[.int .u64 b0, .int .u64 b1, .int .u64 b2, .int .u64 b3, .int .u64 b4, .int .u64 b5, .int .u64 b6, .int .u64 b7]] w
     (Ret (.int .i64 (cmpN (put8 a0 a1 a2 a3 a4 a5 a6 a7) (put8 b0 b1 b2 b3 b4 b5 b6 b7))) w) := by
  go_enter Try.func56, Try.ntmps56
  go_wp2
  have hB : Below w.heap.size w ((w.alloc (.cells #[.int .u64 a0, .int .u64 a1, .int .u64 a2, .int .u64 a3, .int .u64 a4, .int .u64 a5, .int .u64 a6, .int .u64 a7] 82)).alloc (.cells #[.int .u64 b0, .int .u64 b1, .int .u64 b2, .int .u64 b3, .int .u64 b4, .int .u64 b5, .int .u64 b6, .int .u64 b7] 82)) := by go_grown
  have HB := Lib.hid hB
  clear hB
  refine wp_loop_rounds 9 ?_
  rw [rounds_succ]
  go_wp2
  go_quiet (fail)
  go_wp2
  · go_returns; refine ret_of (cmpN_lt ?_) ?_; (unfold put8; repeat (first | with_reducible assumption | (with_reducible refine lx_lo ?_; with_reducible assumption) | (with_reducible refine lx_hi ?_ ?_; with_reducible assumption))); repeat (first | exact HB.out | refine below_drewN ?_ _)
  go_quiet (fail)
  go_wp2
  · go_returns; refine ret_of (cmpN_gt ?_) ?_; (unfold put8; repeat (first | with_reducible assumption | (with_reducible refine lx_lo ?_; with_reducible assumption) | (with_reducible refine lx_hi ?_ ?_; with_reducible assumption))); repeat (first | exact HB.out | refine below_drewN ?_ _)
  obtain rfl : a7 = b7 := by omega
  rw [rounds_succ]
  go_wp2
  go_quiet (fail)
  go_wp2
  · go_returns; refine ret_of (cmpN_lt ?_) ?_; (unfold put8; repeat (first | with_reducible assumption | (with_reducible refine lx_lo ?_; with_reducible assumption) | (with_reducible refine lx_hi ?_ ?_; with_reducible assumption))); repeat (first | exact HB.out | refine below_drewN ?_ _)
  go_quiet (fail)
  go_wp2
  · go_returns; refine ret_of (cmpN_gt ?_) ?_; (unfold put8; repeat (first | with_reducible assumption | (with_reducible refine lx_lo ?_; with_reducible assumption) | (with_reducible refine lx_hi ?_ ?_; with_reducible assumption))); repeat (first | exact HB.out | refine below_drewN ?_ _)
  obtain rfl : a6 = b6 := by omega
  rw [rounds_succ]
  go_wp2
  go_quiet (fail)
  go_wp2
  · go_returns; refine ret_of (cmpN_lt ?_) ?_; (unfold put8; repeat (first | with_reducible assumption | (with_reducible refine lx_lo ?_; with_reducible assumption) | (with_reducible refine lx_hi ?_ ?_; with_reducible assumption))); repeat (first | exact HB.out | refine below_drewN ?_ _)
  go_quiet (fail)
  go_wp2
  · go_returns; refine ret_of (cmpN_gt ?_) ?_; (unfold put8; repeat (first | with_reducible assumption | (with_reducible refine lx_lo ?_; with_reducible assumption) | (with_reducible refine lx_hi ?_ ?_; with_reducible assumption))); repeat (first | exact HB.out | refine below_drewN ?_ _)
  obtain rfl : a5 = b5 := by omega
  rw [rounds_succ]
  go_wp2
  go_quiet (fail)
  go_wp2
  · go_returns; refine ret_of (cmpN_lt ?_) ?_; (unfold put8; repeat (first | with_reducible assumption | (with_reducible refine lx_lo ?_; with_reducible assumption) | (with_reducible refine lx_hi ?_ ?_; with_reducible assumption))); repeat (first | exact HB.out | refine below_drewN ?_ _)
  go_quiet (fail)
  go_wp2
  · go_returns; refine ret_of (cmpN_gt ?_) ?_; (unfold put8; repeat (first | with_reducible assumption | (with_reducible refine lx_lo ?_; with_reducible assumption) | (with_reducible refine lx_hi ?_ ?_; with_reducible assumption))); repeat (first | exact HB.out | refine below_drewN ?_ _)
  obtain rfl : a4 = b4 := by omega
  rw [rounds_succ]
  go_wp2
  go_quiet (fail)
  go_wp2
  · go_returns; refine ret_of (cmpN_lt ?_) ?_; (unfold put8; repeat (first | with_reducible assumption | (with_reducible refine lx_lo ?_; with_reducible assumption) | (with_reducible refine lx_hi ?_ ?_; with_reducible assumption))); repeat (first | exact HB.out | refine below_drewN ?_ _)
  go_quiet (fail)
  go_wp2
  · go_returns; refine ret_of (cmpN_gt ?_) ?_; (unfold put8; repeat (first | with_reducible assumption | (with_reducible refine lx_lo ?_; with_reducible assumption) | (with_reducible refine lx_hi ?_ ?_; with_reducible assumption))); repeat (first | exact HB.out | refine below_drewN ?_ _)
  obtain rfl : a3 = b3 := by omega
  rw [rounds_succ]
  go_wp2
  go_quiet (fail)
  go_wp2
  · go_returns; refine ret_of (cmpN_lt ?_) ?_; (unfold put8; repeat (first | with_reducible assumption | (with_reducible refine lx_lo ?_; with_reducible assumption) | (with_reducible refine lx_hi ?_ ?_; with_reducible assumption))); repeat (first | exact HB.out | refine below_drewN ?_ _)
  go_quiet (fail)
  go_wp2
  · go_returns; refine ret_of (cmpN_gt ?_) ?_; (unfold put8; repeat (first | with_reducible assumption | (with_reducible refine lx_lo ?_; with_reducible assumption) | (with_reducible refine lx_hi ?_ ?_; with_reducible assumption))); repeat (first | exact HB.out | refine below_drewN ?_ _)
  obtain rfl : a2 = b2 := by omega
  rw [rounds_succ]
  go_wp2
  go_quiet (fail)
  go_wp2
  · go_returns; refine ret_of (cmpN_lt ?_) ?_; (unfold put8; repeat (first | with_reducible assumption | (with_reducible refine lx_lo ?_; with_reducible assumption) | (with_reducible refine lx_hi ?_ ?_; with_reducible assumption))); repeat (first | exact HB.out | refine below_drewN ?_ _)
  go_quiet (fail)
  go_wp2
  · go_returns; refine ret_of (cmpN_gt ?_) ?_; (unfold put8; repeat (first | with_reducible assumption | (with_reducible refine lx_lo ?_; with_reducible assumption) | (with_reducible refine lx_hi ?_ ?_; with_reducible assumption))); repeat (first | exact HB.out | refine below_drewN ?_ _)
  obtain rfl : a1 = b1 := by omega
  rw [rounds_succ]
  go_wp2
  go_quiet (fail)
  go_wp2
  · go_returns; refine ret_of (cmpN_lt ?_) ?_; (unfold put8; repeat (first | with_reducible assumption | (with_reducible refine lx_lo ?_; with_reducible assumption) | (with_reducible refine lx_hi ?_ ?_; with_reducible assumption))); repeat (first | exact HB.out | refine below_drewN ?_ _)
  go_quiet (fail)
  go_wp2
  · go_returns; refine ret_of (cmpN_gt ?_) ?_; (unfold put8; repeat (first | with_reducible assumption | (with_reducible refine lx_lo ?_; with_reducible assumption) | (with_reducible refine lx_hi ?_ ?_; with_reducible assumption))); repeat (first | exact HB.out | refine below_drewN ?_ _)
  obtain rfl : a0 = b0 := by omega
  rw [rounds_succ]
  go_wp2
  go_returns; exact ret_of (cmpN_eq rfl) (by repeat (first | exact HB.out | refine below_drewN ?_ _))
theorem cmp_any (M N : Nat) (hM : M < 340282366920938463463374607431768211456) (hN : N < 340282366920938463463374607431768211456) (w : World) :
    Calls Try.prog 56 #[numV M, numV N] w (Ret (.int .i64 (cmpN M N)) w) := by
  have h := cmp_dig (dg M 0) (dg M 1) (dg M 2) (dg M 3) (dg M 4) (dg M 5) (dg M 6) (dg M 7) (dg N 0) (dg N 1) (dg N 2) (dg N 3) (dg N 4) (dg N 5) (dg N 6) (dg N 7) (dg_lt M 0) (dg_lt M 1) (dg_lt M 2) (dg_lt M 3) (dg_lt M 4) (dg_lt M 5) (dg_lt M 6) (dg_lt N 0) (dg_lt N 1) (dg_lt N 2) (dg_lt N 3) (dg_lt N 4) (dg_lt N 5) (dg_lt N 6) w
  rw [put8_dg M hM, put8_dg N hN] at h
  exact h

set_option maxHeartbeats 1000000 in
theorem plus_dig (a0 a1 a2 a3 a4 a5 a6 a7 b0 b1 b2 b3 b4 b5 b6 b7 : Nat) (ha0 : (a0 : Int) < 65536) (ha1 : (a1 : Int) < 65536) (ha2 : (a2 : Int) < 65536) (ha3 : (a3 : Int) < 65536) (ha4 : (a4 : Int) < 65536) (ha5 : (a5 : Int) < 65536) (ha6 : (a6 : Int) < 65536) (ha7 : (a7 : Int) < 65536) (hb0 : (b0 : Int) < 65536) (hb1 : (b1 : Int) < 65536) (hb2 : (b2 : Int) < 65536) (hb3 : (b3 : Int) < 65536) (hb4 : (b4 : Int) < 65536) (hb5 : (b5 : Int) < 65536) (hb6 : (b6 : Int) < 65536) (hb7 : (b7 : Int) < 65536) (w : World) :
    Calls Try.prog 57 #[.agg #[.int .u64 a0, .int .u64 a1, .int .u64 a2, .int .u64 a3, .int .u64 a4, .int .u64 a5, .int .u64 a6, .int .u64 a7], .agg #[.int .u64 b0, .int .u64 b1, .int .u64 b2, .int .u64 b3, .int .u64 b4, .int .u64 b5, .int .u64 b6, .int .u64 b7]] w
     (Ret (.tuple #[numV (put8 (a0 + b0) (a1 + b1) (a2 + b2) (a3 + b3) (a4 + b4) (a5 + b5) (a6 + b6) (a7 + b7)), .bool (((put8 (a0 + b0) (a1 + b1) (a2 + b2) (a3 + b3) (a4 + b4) (a5 + b5) (a6 + b6) (a7 + b7) / 65536 ^ 8 : Nat) : Int) == 0)]) w) := by
  go_enter Try.func57, Try.ntmps57
  go_wp2
  refine wp_loop_rounds 9 ?_
  iterate 8
    rw [rounds_succ]
    go_wp2
    go_region
    go_wp2
  rw [rounds_succ]
  go_wp2
  go_returns
  refine ⟨?_, by go_grown⟩
  rw [put8_norm, put8_over]
  simp (disch := omega) only [and16i, Int.natCast_add]
theorem put8_add (a0 a1 a2 a3 a4 a5 a6 a7 b0 b1 b2 b3 b4 b5 b6 b7 : Nat) : put8 (a0 + b0) (a1 + b1) (a2 + b2) (a3 + b3) (a4 + b4) (a5 + b5) (a6 + b6) (a7 + b7) = put8 a0 a1 a2 a3 a4 a5 a6 a7 + put8 b0 b1 b2 b3 b4 b5 b6 b7 := by unfold put8; omega
/-- Plus: the digits of the sum, and whether it fits. -/
theorem plus_any (M N : Nat) (hM : M < 340282366920938463463374607431768211456) (hN : N < 340282366920938463463374607431768211456) (w : World) :
    Calls Try.prog 57 #[numV M, numV N] w (Ret (.tuple #[numV (M + N), .bool (decide (M + N < 340282366920938463463374607431768211456))]) w) := by
  have h := plus_dig (dg M 0) (dg M 1) (dg M 2) (dg M 3) (dg M 4) (dg M 5) (dg M 6) (dg M 7) (dg N 0) (dg N 1) (dg N 2) (dg N 3) (dg N 4) (dg N 5) (dg N 6) (dg N 7) (by have := dg_lt M 0; omega) (by have := dg_lt M 1; omega) (by have := dg_lt M 2; omega) (by have := dg_lt M 3; omega) (by have := dg_lt M 4; omega) (by have := dg_lt M 5; omega) (by have := dg_lt M 6; omega) (by have := dg_lt M 7; omega) (by have := dg_lt N 0; omega) (by have := dg_lt N 1; omega) (by have := dg_lt N 2; omega) (by have := dg_lt N 3; omega) (by have := dg_lt N 4; omega) (by have := dg_lt N 5; omega) (by have := dg_lt N 6; omega) (by have := dg_lt N 7; omega) w
  rw [put8_add, put8_dg M hM, put8_dg N hN] at h
  have e : ((((M + N) / 65536 ^ 8 : Nat) : Int) == 0) = decide (M + N < 340282366920938463463374607431768211456) := by
    have e2 : (65536 : Nat) ^ 8 = 340282366920938463463374607431768211456 := by simp only [Nat.reducePow]
    rw [e2, Bool.eq_iff_iff, beq_iff_eq, decide_eq_true_iff]
    omega
  rw [e] at h
  exact h

end Go.Proofs.Ytncbieaobadekaa
