/- Package money: Mul; and the law MoneyMuls answers true, for every two amounts. -/
import Derived.Test.YtcclhblkchghbaaDoorMoneyRefMul
import Derived.Test.YtcclhblkchghbaaDoorMoneyAddsWalk
namespace Go.Proofs.YtcclhblkchghbaaDoor
open Go.ChangeShapes Go.WideShapes Go.ChangeAt Go.RowKit
set_option maxHeartbeats 1000000 in
theorem mul_any (x y : Int) (hx : -9223372036854775808 ≤ x ∧ x ≤ 9223372036854775807) (hy : -9223372036854775808 ≤ y ∧ y ≤ 9223372036854775807) (w : World) :
    Calls Tryd.prog 14 #[.int .i64 x, .int .i64 y] w (RetS (amt (x * y)) w) := by
  have HX := Lib.hid (fun (w : World) => size_any x hx w)
  have HY := Lib.hid (fun (w : World) => size_any y hy w)
  have HB := Lib.hid (fun (w : World) => Tryd.bits_Mul64 x.natAbs y.natAbs (by omega) (by omega) w)
  obtain ⟨h, hh⟩ : ∃ h, x.natAbs * y.natAbs / 18446744073709551616 = h := ⟨_, rfl⟩
  obtain ⟨l, hl⟩ : ∃ l, x.natAbs * y.natAbs % 18446744073709551616 = l := ⟨_, rfl⟩
  rw [hh, hl] at HB
  have HS := Lib.hid (fun (b : Bool) (w : World) => signed_any l b w)
  have hm := mul_sgn x y
  generalize x.natAbs * y.natAbs = N at *
  generalize x.natAbs = a at *
  generalize y.natAbs = b at *
  by_cases hz : h = 0
  · have e : N = l := by omega
    rw [e] at hm
    have HM := Lib.hid hm
    obtain ⟨r, er, hv⟩ := amt_form (x * y)
    have HV := Lib.hid hv
    rw [hm] at hv
    have HS2 := Lib.hid (fun (w : World) => HS.out (decide (x < 0) != decide (y < 0)) w)
    rw [hv] at HS2
    subst hz
    clear hh hl hx hy hm hv e HS HM
    by_cases cx : x < 0 <;> by_cases cy : y < 0
    · rw [decide_eq_true cx, decide_eq_true cy, show (true != true) = false from rfl] at HS2
      have dx := decide_eq_true cx
      have dy := decide_eq_true cy
      clear cx cy
      go_enter Tryd.func14, Tryd.ntmps14
      go_wp2_with fail
      refine (HX.out _).mono ?_
      rintro e w1 ⟨rfl, rfl⟩
      go_wp2_with fail
      refine (HY.out _).mono ?_
      rintro e w1 ⟨rfl, rfl⟩
      go_wp2_with fail
      refine (HB.out _).mono ?_
      rintro e w1 ⟨rfl, rfl⟩
      go_wp2_with fail
      refine (HS2.out _).mono ?_
      rintro e w1 ⟨rfl, rfl⟩
      go_wp2
      go_ret2
      exact ⟨by rw [HV.out]; rfl, rfl⟩
    · rw [decide_eq_true cx, decide_eq_false cy, show (true != false) = true from rfl] at HS2
      have dx := decide_eq_true cx
      have dy := decide_eq_false cy
      clear cx cy
      go_enter Tryd.func14, Tryd.ntmps14
      go_wp2_with fail
      refine (HX.out _).mono ?_
      rintro e w1 ⟨rfl, rfl⟩
      go_wp2_with fail
      refine (HY.out _).mono ?_
      rintro e w1 ⟨rfl, rfl⟩
      go_wp2_with fail
      refine (HB.out _).mono ?_
      rintro e w1 ⟨rfl, rfl⟩
      go_wp2_with fail
      refine (HS2.out _).mono ?_
      rintro e w1 ⟨rfl, rfl⟩
      go_wp2
      go_ret2
      exact ⟨by rw [HV.out]; rfl, rfl⟩
    · rw [decide_eq_false cx, decide_eq_true cy, show (false != true) = true from rfl] at HS2
      have dx := decide_eq_false cx
      have dy := decide_eq_true cy
      clear cx cy
      go_enter Tryd.func14, Tryd.ntmps14
      go_wp2_with fail
      refine (HX.out _).mono ?_
      rintro e w1 ⟨rfl, rfl⟩
      go_wp2_with fail
      refine (HY.out _).mono ?_
      rintro e w1 ⟨rfl, rfl⟩
      go_wp2_with fail
      refine (HB.out _).mono ?_
      rintro e w1 ⟨rfl, rfl⟩
      go_wp2_with fail
      refine (HS2.out _).mono ?_
      rintro e w1 ⟨rfl, rfl⟩
      go_wp2
      go_ret2
      exact ⟨by rw [HV.out]; rfl, rfl⟩
    · rw [decide_eq_false cx, decide_eq_false cy, show (false != false) = false from rfl] at HS2
      have dx := decide_eq_false cx
      have dy := decide_eq_false cy
      clear cx cy
      go_enter Tryd.func14, Tryd.ntmps14
      go_wp2_with fail
      refine (HX.out _).mono ?_
      rintro e w1 ⟨rfl, rfl⟩
      go_wp2_with fail
      refine (HY.out _).mono ?_
      rintro e w1 ⟨rfl, rfl⟩
      go_wp2_with fail
      refine (HB.out _).mono ?_
      rintro e w1 ⟨rfl, rfl⟩
      go_wp2_with fail
      refine (HS2.out _).mono ?_
      rintro e w1 ⟨rfl, rfl⟩
      go_wp2
      go_ret2
      exact ⟨by rw [HV.out]; rfl, rfl⟩
  · have hov : ¬ (-9223372036854775808 ≤ x * y ∧ x * y ≤ 9223372036854775807) := by
      have : 18446744073709551616 ≤ N := by omega
      unfold sgn at hm
      split at hm <;> omega
    have HV := Lib.hid (amt_out hov)
    have q1 : ((h : Int) != 0) = true := by rw [bne_iff_ne]; omega
    have q2 : ((h : Int) == 0) = false := by rw [beq_eq_false_iff_ne]; omega
    clear hh hl hx hy hm hov hz HS
    go_enter Tryd.func14, Tryd.ntmps14
    go_wp2_with fail
    refine (HX.out _).mono ?_
    rintro e w1 ⟨rfl, rfl⟩
    go_wp2_with fail
    refine (HY.out _).mono ?_
    rintro e w1 ⟨rfl, rfl⟩
    go_wp2_with fail
    refine (HB.out _).mono ?_
    rintro e w1 ⟨rfl, rfl⟩
    go_wp2
    go_ret2
    exact ⟨by rw [HV.out]; rfl, rfl⟩
set_option maxRecDepth 100000 in
set_option maxHeartbeats 2000000 in
theorem muls_walk (a b : Int) (ha : -9223372036854775808 ≤ a ∧ a ≤ 9223372036854775807) (hb : -9223372036854775808 ≤ b ∧ b ≤ 9223372036854775807) (w : World) (ht : Tab w) :
    Calls Tryd.prog 4 #[.int .i64 a, .int .i64 b] w (Ret (.bool true) w) := by
  have HM := Lib.hid (fun (w : World) => mul_any a b ha hb w)
  have HR := Lib.hid (fun (w : World) => refmul_any a b ha hb w)
  have HN := Lib.hid (fun (w : World) => neg_any a ha w)
  have h1 := fun (w : World) => refmul_any a (-1) ha (by omega) w
  rw [show a * -1 = -a from by omega] at h1
  have HR1 := Lib.hid h1
  have HZ := Lib.hid (fun (w : World) => size_any a ha w)
  have HZR := Lib.hid (fun (w : World) => refsize_any a ha w)
  have HX := Lib.hid (fun (w : World) h => awake_any w h)
  have HT := Lib.hid ht
  obtain ⟨s, e, hs⟩ := amt_form (a * b)
  obtain ⟨t, f, hf⟩ := amt_form (-a)
  rw [hs] at HM HR
  rw [hf] at HN HR1
  generalize a.natAbs = n at *
  clear hs hf ha hb ht h1
  go_enter Tryd.func4, Tryd.ntmps4
  go_wp2_with fail
  refine (HM.out _).mono ?_
  rintro x w1 ⟨rfl, rfl⟩
  go_wp2_with fail
  refine (HR.out _).mono ?_
  rintro x w1 ⟨rfl, h1⟩
  have H1 := Lib.hid h1
  clear h1
  go_wp2_with fail
  refine (HN.out _).mono ?_
  rintro x w2 ⟨rfl, rfl⟩
  go_wp2_with fail
  refine (HR1.out _).mono ?_
  rintro x w2 ⟨rfl, h2⟩
  have H2 : Hid (Below w.heap.size w w2) := H1.out.trans (h2.mono H1.out.size)
  clear h2
  go_wp2_with fail
  refine (HX.out _ (HT.out.next H2.out)).mono ?_
  rintro x w3 ⟨rfl, h3⟩
  have H3 : Hid (Below w.heap.size w w3) := H2.out.trans (h3.mono H2.out.size)
  clear h3
  go_wp2_with fail
  refine (HZ.out _).mono ?_
  rintro x w4 ⟨rfl, rfl⟩
  go_wp2_with fail
  refine (HZR.out _).mono ?_
  rintro x w4 ⟨rfl, rfl⟩
  go_wp2
  go_ret
  exact ⟨rfl, H3.out⟩
end Go.Proofs.YtcclhblkchghbaaDoor
