/- The laws ShareParts and ShareAllots answer true. -/
import Derived.Test.YtncbieaobadekaaShareRef3
import Derived.Test.YtncbieaobadekaaShareAwake2
namespace Go.Proofs.Ytncbieaobadekaa
open Go.ChangeShapes Go.WideShapes Go.ChangeAt Go.RowKit
theorem parts_long (t : Int) (n cap : Nat) (ao : Option Addr) (hn : n ≤ 9223372036854775807) (h : 60 < n) (w : World) :
    Calls Try.prog 3 #[.int .i64 t, .slice ao n cap] w (Ret (.bool true) w) := by
  have HX := Lib.hid (awake_any w)
  have d1 : decide ((60 : Int) < n) = true := decide_eq_true (by omega)
  have d2 : decide (60 < n) = true := decide_eq_true h
  clear hn h
  go_enter Try.func3, Try.ntmps3
  go_wp2_with fail
  refine HX.out.mono ?_
  rintro e w1 ⟨rfl, h1⟩
  go_wp2
  go_ret
  exact ⟨rfl, h1⟩
set_option maxHeartbeats 1000000 in
theorem parts_short (t : Int) (z : Nat → Int) (n cap : Nat) (ao : Option Addr) (hn : n ≤ 60) (ht : t ≤ 9223372036854775807) (hz : ∀ i, i < n → -9223372036854775808 ≤ z i ∧ z i ≤ 9223372036854775807) (w : World) (h : IntsAt w ao n z) :
    Calls Try.prog 3 #[.int .i64 t, .slice ao n cap] w (Ret (.bool true) w) := by
  have HX := Lib.hid (fun W => awake_any W)
  have HA := Lib.hid (appor_all t z n cap ao hn ht (fun i hi => (hz i hi).2) w h)
  have HR : Hid (∀ c m P W, AppAns t z n c m P → IntsAt W ao n z → Calls Try.prog 15 #[.int .i64 t, .slice ao n cap] W (AppP c m P W)) := fun c m P W hA hI => refapp_all hA cap ao hn ht hz W hI
  have HS := Lib.hid (fun (P : Nat → Int) m c1 c2 a1 a2 W hm h1 h2 => yes_any P m c1 c2 a1 a2 hm W h1 h2)
  have HM : Hid (∀ c m P, AppAns t z n c m P → m ≤ 1000000) := fun c m P hA => by cases hA <;> omega
  have HI := Lib.hid h
  have d1 : decide ((60 : Int) < n) = false := decide_eq_false (by omega)
  have d2 : decide (60 < n) = false := decide_eq_false (by omega)
  clear hn ht hz h
  go_enter Try.func3, Try.ntmps3
  go_wp2_with fail
  refine HA.out.mono ?_
  rintro e w1 ⟨c, m, P, hans, h1, a1, k1, rfl, hi1⟩
  have H1 := Lib.hid h1
  have HI1 := Lib.hid hi1
  have HRR := Lib.hid (HR.out c m P w1 hans (HI.out.below h1))
  have HMM := Lib.hid (HM.out c m P hans)
  clear h1 hi1 hans
  go_wp2_with fail
  refine HRR.out.mono ?_
  rintro e w2 ⟨h2, a2, k2, rfl, hi2⟩
  have H2 : Hid (Below w.heap.size w w2) := H1.out.trans (h2.mono H1.out.size)
  have HI12 := Lib.hid (HI1.out.below h2)
  have HI22 := Lib.hid hi2
  clear h2 hi2
  go_wp2_with fail
  refine (HX.out w2).mono ?_
  rintro e w3 ⟨rfl, h3⟩
  have H3 : Hid (Below w.heap.size w w3) := H2.out.trans (h3.mono H2.out.size)
  have HI13 := Lib.hid (HI12.out.below h3)
  have HI23 := Lib.hid (HI22.out.below h3)
  clear h3
  have ec : (c == c) = true := by simp
  go_wp2_with fail
  refine (HS.out P m _ _ _ _ w3 HMM.out HI13.out HI23.out).mono ?_
  rintro e w4 ⟨rfl, q, rfl⟩
  go_wp2
  go_ret
  exact ⟨rfl, below_drewN H3.out q⟩
theorem allots_long (t : Int) (n cap : Nat) (ao : Option Addr) (hn : n ≤ 9223372036854775807) (h : 60 < n) (w : World) :
    Calls Try.prog 4 #[.int .i64 t, .slice ao n cap] w (Ret (.bool true) w) := by
  have HX := Lib.hid (awake_any w)
  have d1 : decide ((60 : Int) < n) = true := decide_eq_true (by omega)
  have d2 : decide (60 < n) = true := decide_eq_true h
  clear hn h
  go_enter Try.func4, Try.ntmps4
  go_wp2_with fail
  refine HX.out.mono ?_
  rintro e w1 ⟨rfl, h1⟩
  go_wp2
  go_ret
  exact ⟨rfl, h1⟩
set_option maxHeartbeats 1000000 in
theorem allots_short (t : Int) (z : Nat → Int) (n cap : Nat) (ao : Option Addr) (hn : n ≤ 60) (ht : t ≤ 9223372036854775807) (hz : ∀ i, i < n → -9223372036854775808 ≤ z i ∧ z i ≤ 9223372036854775807) (w : World) (h : IntsAt w ao n z) :
    Calls Try.prog 4 #[.int .i64 t, .slice ao n cap] w (Ret (.bool true) w) := by
  have HX := Lib.hid (fun W => awake_any W)
  have HA := Lib.hid (alloc_all t z n cap ao hn ht (fun i hi => (hz i hi).2) w h)
  have HR : Hid (∀ c m P W, AllAns t z n c m P → IntsAt W ao n z → Calls Try.prog 18 #[.int .i64 t, .slice ao n cap] W (AppP c m P W)) := fun c m P W hA hI => refall_all hA cap ao hn ht hz W hI
  have HS := Lib.hid (fun (P : Nat → Int) m c1 c2 a1 a2 W hm h1 h2 => yes_any P m c1 c2 a1 a2 hm W h1 h2)
  have HM : Hid (∀ c m P, AllAns t z n c m P → m ≤ 1000000) := fun c m P hA => by cases hA <;> omega
  have HI := Lib.hid h
  have d1 : decide ((60 : Int) < n) = false := decide_eq_false (by omega)
  have d2 : decide (60 < n) = false := decide_eq_false (by omega)
  clear hn ht hz h
  go_enter Try.func4, Try.ntmps4
  go_wp2_with fail
  refine HA.out.mono ?_
  rintro e w1 ⟨c, m, P, hans, h1, a1, k1, rfl, hi1⟩
  have H1 := Lib.hid h1
  have HI1 := Lib.hid hi1
  have HRR := Lib.hid (HR.out c m P w1 hans (HI.out.below h1))
  have HMM := Lib.hid (HM.out c m P hans)
  clear h1 hi1 hans
  go_wp2_with fail
  refine HRR.out.mono ?_
  rintro e w2 ⟨h2, a2, k2, rfl, hi2⟩
  have H2 : Hid (Below w.heap.size w w2) := H1.out.trans (h2.mono H1.out.size)
  have HI12 := Lib.hid (HI1.out.below h2)
  have HI22 := Lib.hid hi2
  clear h2 hi2
  go_wp2_with fail
  refine (HX.out w2).mono ?_
  rintro e w3 ⟨rfl, h3⟩
  have H3 : Hid (Below w.heap.size w w3) := H2.out.trans (h3.mono H2.out.size)
  have HI13 := Lib.hid (HI12.out.below h3)
  have HI23 := Lib.hid (HI22.out.below h3)
  clear h3
  have ec : (c == c) = true := by simp
  go_wp2_with fail
  refine (HS.out P m _ _ _ _ w3 HMM.out HI13.out HI23.out).mono ?_
  rintro e w4 ⟨rfl, q, rfl⟩
  go_wp2
  go_ret
  exact ⟨rfl, below_drewN H3.out q⟩
end Go.Proofs.Ytncbieaobadekaa
