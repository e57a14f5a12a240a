/- The document's Has, value, with. -/
import Derived.Test.YtbpaongnehgodaaCoGet
namespace Go.Proofs.Ytbpaongnehgodaa
open Go.ChangeShapes Go.WideShapes Go.ChangeAt Go.RowKit
/-- What a kind has, in letters. -/
def letsN : Nat → List UInt8
  | 1 => []
  | 2 => [105, 109, 111, 115, 113, 112]
  | 3 => [105]
  | 4 => [109, 113]
  | 5 => [109, 115, 113]
  | 6 => [109, 115, 113]
  | 7 => [109, 115, 113, 112]
  | 8 => [109, 113]
  | 9 => [109, 113]
  | 10 => []
  | _ => [63]
/-- A command's value, by its letter. -/
def valL (c : Cm) (x : Nat) : Int := if x = 105 then c.i else if x = 109 then c.m else if x = 111 then c.o else if x = 115 then c.s else if x = 113 then c.q else c.p
/-- A command with a value, by its letter. -/
def withL (c : Cm) (x : Nat) (n : Int) : Cm := if x = 105 then { c with i := n } else if x = 109 then { c with m := n } else if x = 111 then { c with o := n } else if x = 115 then { c with s := n } else if x = 113 then { c with q := n } else if x = 112 then { c with p := n } else c
theorem rvalue_any (c : Cm) (x : Nat) (w : World) : Calls Try.prog 33 #[cmv c, .int .u8 (x : Int)] w (Ret (.int .i64 (valL c x)) w) := by
  have hc : CB (w.alloc (.cells #[.int .i64 c.k, .int .i64 c.i, .int .i64 c.m, .int .i64 c.o, .int .i64 c.s, .int .i64 c.q, .int .i64 c.p] 23)) w.heap.size c := (boxes1 w _).1
  obtain ⟨k0, k1, k2, k3, k4, k5, k6⟩ := hc.cells
  clear hc
  by_cases h105 : x = 105
  · have hv : valL c x = c.i := by unfold valL; rw [if_pos h105]
    rw [hv]
    subst h105
    clear hv 
    go_enter Try.func33, Try.ntmps33
    go_wp2_with fail
    go_ret
    exact ⟨rfl, by go_grown⟩
  have e105 : ((x : Int) == 105) = false := by rw [beq_eq_false_iff_ne]; omega
  by_cases h109 : x = 109
  · have hv : valL c x = c.m := by unfold valL; rw [if_neg h105]; rw [if_pos h109]
    rw [hv]
    subst h109
    clear hv h105
    go_enter Try.func33, Try.ntmps33
    go_wp2_with fail
    go_ret
    exact ⟨rfl, by go_grown⟩
  have e109 : ((x : Int) == 109) = false := by rw [beq_eq_false_iff_ne]; omega
  by_cases h111 : x = 111
  · have hv : valL c x = c.o := by unfold valL; rw [if_neg h105]; rw [if_neg h109]; rw [if_pos h111]
    rw [hv]
    subst h111
    clear hv h105 h109
    go_enter Try.func33, Try.ntmps33
    go_wp2_with fail
    go_ret
    exact ⟨rfl, by go_grown⟩
  have e111 : ((x : Int) == 111) = false := by rw [beq_eq_false_iff_ne]; omega
  by_cases h115 : x = 115
  · have hv : valL c x = c.s := by unfold valL; rw [if_neg h105]; rw [if_neg h109]; rw [if_neg h111]; rw [if_pos h115]
    rw [hv]
    subst h115
    clear hv h105 h109 h111
    go_enter Try.func33, Try.ntmps33
    go_wp2_with fail
    go_ret
    exact ⟨rfl, by go_grown⟩
  have e115 : ((x : Int) == 115) = false := by rw [beq_eq_false_iff_ne]; omega
  by_cases h113 : x = 113
  · have hv : valL c x = c.q := by unfold valL; rw [if_neg h105]; rw [if_neg h109]; rw [if_neg h111]; rw [if_neg h115]; rw [if_pos h113]
    rw [hv]
    subst h113
    clear hv h105 h109 h111 h115
    go_enter Try.func33, Try.ntmps33
    go_wp2_with fail
    go_ret
    exact ⟨rfl, by go_grown⟩
  have e113 : ((x : Int) == 113) = false := by rw [beq_eq_false_iff_ne]; omega
  have hv : valL c x = c.p := by unfold valL; rw [if_neg h105]; rw [if_neg h109]; rw [if_neg h111]; rw [if_neg h115]; rw [if_neg h113]
  rw [hv]
  clear hv h105 h109 h111 h115 h113
  go_enter Try.func33, Try.ntmps33
  go_wp2_with fail
  go_ret
  exact ⟨rfl, by go_grown⟩
set_option maxHeartbeats 2000000 in
theorem rwith_any (c : Cm) (x : Nat) (n : Int) (w : World) : Calls Try.prog 27 #[cmv c, .int .u8 (x : Int), .int .i64 n] w (Ret (cmv (withL c x n)) w) := by
  by_cases h105 : x = 105
  · have hv : withL c x n = { c with i := n } := by unfold withL; rw [if_pos h105]
    rw [hv]
    subst h105
    clear hv 
    go_enter Try.func27, Try.ntmps27
    go_wp2_with fail
    refine bodyPost_ret (v := .agg #[.int .i64 c.k, .int .i64 n, .int .i64 c.m, .int .i64 c.o, .int .i64 c.s, .int .i64 c.q, .int .i64 c.p]) (by simp [results, Try.results27, go_sem]) rfl ?_
    exact ⟨rfl, by go_grown⟩
  have e105 : ((x : Int) == 105) = false := by rw [beq_eq_false_iff_ne]; omega
  by_cases h109 : x = 109
  · have hv : withL c x n = { c with m := n } := by unfold withL; rw [if_neg h105]; rw [if_pos h109]
    rw [hv]
    subst h109
    clear hv h105
    go_enter Try.func27, Try.ntmps27
    go_wp2_with fail
    refine bodyPost_ret (v := .agg #[.int .i64 c.k, .int .i64 c.i, .int .i64 n, .int .i64 c.o, .int .i64 c.s, .int .i64 c.q, .int .i64 c.p]) (by simp [results, Try.results27, go_sem]) rfl ?_
    exact ⟨rfl, by go_grown⟩
  have e109 : ((x : Int) == 109) = false := by rw [beq_eq_false_iff_ne]; omega
  by_cases h111 : x = 111
  · have hv : withL c x n = { c with o := n } := by unfold withL; rw [if_neg h105]; rw [if_neg h109]; rw [if_pos h111]
    rw [hv]
    subst h111
    clear hv h105 h109
    go_enter Try.func27, Try.ntmps27
    go_wp2_with fail
    refine bodyPost_ret (v := .agg #[.int .i64 c.k, .int .i64 c.i, .int .i64 c.m, .int .i64 n, .int .i64 c.s, .int .i64 c.q, .int .i64 c.p]) (by simp [results, Try.results27, go_sem]) rfl ?_
    exact ⟨rfl, by go_grown⟩
  have e111 : ((x : Int) == 111) = false := by rw [beq_eq_false_iff_ne]; omega
  by_cases h115 : x = 115
  · have hv : withL c x n = { c with s := n } := by unfold withL; rw [if_neg h105]; rw [if_neg h109]; rw [if_neg h111]; rw [if_pos h115]
    rw [hv]
    subst h115
    clear hv h105 h109 h111
    go_enter Try.func27, Try.ntmps27
    go_wp2_with fail
    refine bodyPost_ret (v := .agg #[.int .i64 c.k, .int .i64 c.i, .int .i64 c.m, .int .i64 c.o, .int .i64 n, .int .i64 c.q, .int .i64 c.p]) (by simp [results, Try.results27, go_sem]) rfl ?_
    exact ⟨rfl, by go_grown⟩
  have e115 : ((x : Int) == 115) = false := by rw [beq_eq_false_iff_ne]; omega
  by_cases h113 : x = 113
  · have hv : withL c x n = { c with q := n } := by unfold withL; rw [if_neg h105]; rw [if_neg h109]; rw [if_neg h111]; rw [if_neg h115]; rw [if_pos h113]
    rw [hv]
    subst h113
    clear hv h105 h109 h111 h115
    go_enter Try.func27, Try.ntmps27
    go_wp2_with fail
    refine bodyPost_ret (v := .agg #[.int .i64 c.k, .int .i64 c.i, .int .i64 c.m, .int .i64 c.o, .int .i64 c.s, .int .i64 n, .int .i64 c.p]) (by simp [results, Try.results27, go_sem]) rfl ?_
    exact ⟨rfl, by go_grown⟩
  have e113 : ((x : Int) == 113) = false := by rw [beq_eq_false_iff_ne]; omega
  by_cases h112 : x = 112
  · have hv : withL c x n = { c with p := n } := by unfold withL; rw [if_neg h105]; rw [if_neg h109]; rw [if_neg h111]; rw [if_neg h115]; rw [if_neg h113]; rw [if_pos h112]
    rw [hv]
    subst h112
    clear hv h105 h109 h111 h115 h113
    go_enter Try.func27, Try.ntmps27
    go_wp2_with fail
    refine bodyPost_ret (v := .agg #[.int .i64 c.k, .int .i64 c.i, .int .i64 c.m, .int .i64 c.o, .int .i64 c.s, .int .i64 c.q, .int .i64 n]) (by simp [results, Try.results27, go_sem]) rfl ?_
    exact ⟨rfl, by go_grown⟩
  have e112 : ((x : Int) == 112) = false := by rw [beq_eq_false_iff_ne]; omega
  have hv : withL c x n = c := by unfold withL; rw [if_neg h105]; rw [if_neg h109]; rw [if_neg h111]; rw [if_neg h115]; rw [if_neg h113]; rw [if_neg h112]
  rw [hv]
  clear hv h105 h109 h111 h115 h113 h112
  go_enter Try.func27, Try.ntmps27
  go_wp2_with fail
  refine bodyPost_ret (v := .agg #[.int .i64 c.k, .int .i64 c.i, .int .i64 c.m, .int .i64 c.o, .int .i64 c.s, .int .i64 c.q, .int .i64 c.p]) (by simp [results, Try.results27, go_sem]) rfl ?_
  exact ⟨rfl, by go_grown⟩
end Go.Proofs.Ytbpaongnehgodaa
