/- ConfMay, walked (made by gen_cf9.py). -/
import Derived.Test.YthmbpoldjddheaaCfMayPre
namespace Go.Proofs.Ythmbpoldjddheaa
open Go.ChangeShapes Go.WideShapes Go.ChangeAt Go.RowKit
set_option maxHeartbeats 8000000 in
set_option maxRecDepth 100000 in
theorem may_ok (c : CF) (w : World) (h : c.At w) (hf : c.nm ≤ 20 ∧ c.ns ≤ 20 ∧ c.nc ≤ 20) (hw : c.word = ⟨#[]⟩) : Calls Try.prog 7 #[.agg #[.slice c.am c.nm c.cm, .slice c.au c.ns c.cs, .slice c.ac c.nc c.cc, .int .i64 c.li, .int .i64 c.ca, .int .i64 c.le, .int .i64 c.tr, .int .i64 c.bi]] w (Ret (.bool true) w) := by
  have HF := Lib.hid (fun W => few10_any c ⟨by omega, by omega, by omega⟩ W)
  rw [show c.small = true by unfold CF.small; rw [decide_eq_true hf.1, decide_eq_true hf.2.1, decide_eq_true hf.2.2]; rfl] at HF
  have HA := Lib.hid awake10_any
  have HR := Lib.hid (fun W hW => refwrong10_any c W hW)
  rw [← word_eq c] at HR
  have HWR := Lib.hid (fun W hW => wrong_any c W hW)
  have HCK := Lib.hid (fun W hW => check10_ok c W hW hw)
  have HLA := Lib.hid (fun W hW => last_all c W hW)
  have HTK := Lib.hid (fun W hW => ticks_any c.am c.au c.ac c.nm c.cm c.ns c.cs c.nc c.cc c.li c.ca c.le c.tr c.bi c.p c.q c.r c.s (by omega) W hW)
  have HX0 : Hid (Bo c w (w.alloc (.cells #[.slice c.am c.nm c.cm, .slice c.au c.ns c.cs, .slice c.ac c.nc c.cc, .int .i64 c.li, .int .i64 c.ca, .int .i64 c.le, .int .i64 c.tr, .int .i64 c.bi] 67))) := ⟨heap_alloc_new _ _, h.below ((Below.refl _ _).alloc (Nat.le_refl _) _), (Below.refl _ _).alloc (Nat.le_refl _) _⟩
  have n3 : (c.nc : Int) ≤ 20 := by omega
  rw [hw] at HR HWR
  clear hw
  obtain ⟨m, hm⟩ : ∃ m, c.nc * 4 = m := ⟨_, rfl⟩
  have hm4 : 4 * (c.nc : Int) = (m : Int) := by omega
  have hmw : wrap64 (m : Int) = (m : Int) := Go.IntWalk.wrap64_in _ (by omega)
  rw [hm] at HTK
  have HM := Lib.hid hm
  clear h hf hm
  go_enter Try.func7, Try.ntmps7
  go_wp2_with fail
  refine (HF.out _).mono ?_
  rintro e w1 ⟨rfl, h1⟩
  have HX1 := Lib.hid (HX0.out.keep h1)
  clear h1 HX0
  obtain ⟨x0, x1, x2, x3, x4, x5, x6, x7⟩ := eight_read HX1.out.z
  go_wp2_with fail
  refine (HR.out _ HX1.out.cfg).mono ?_
  rintro e w2 ⟨rfl, h2⟩
  have HX2 := Lib.hid (HX1.out.keep h2)
  clear h2 HX1 x0 x1 x2 x3 x4 x5 x6 x7
  obtain ⟨x0, x1, x2, x3, x4, x5, x6, x7⟩ := eight_read HX2.out.z
  go_wp2_with fail
  refine (HTK.out _ HX2.out.cfg.y).mono ?_
  rintro e w3 ⟨h3, ao, cap, rfl, ho⟩
  have HX3 := Lib.hid (HX2.out.keep h3)
  have HO3 := Lib.hid ho
  clear h3 ho HX2 x0 x1 x2 x3 x4 x5 x6 x7
  obtain ⟨x0, x1, x2, x3, x4, x5, x6, x7⟩ := eight_read HX3.out.z
  go_wp2_with fail
  refine (HWR.out _ HX3.out.cfg).mono ?_
  rintro e w4 ⟨rfl, h4⟩
  have HX4 := Lib.hid (HX3.out.keep h4)
  have HO4 := Lib.hid (HO3.out.below h4)
  clear h4 HX3 HO3 x0 x1 x2 x3 x4 x5 x6 x7
  obtain ⟨x0, x1, x2, x3, x4, x5, x6, x7⟩ := eight_read HX4.out.z
  go_wp2_with fail
  refine (HCK.out _ HX4.out.cfg).mono ?_
  rintro e w5 ⟨rfl, h5⟩
  have HX5 := Lib.hid (HX4.out.keep h5)
  have HO5 := Lib.hid (HO4.out.below h5)
  clear h5 HX4 HO4 x0 x1 x2 x3 x4 x5 x6 x7
  obtain ⟨x0, x1, x2, x3, x4, x5, x6, x7⟩ := eight_read HX5.out.z
  go_wp2_with fail
  clear x0 x1 x2 x3 x4 x5 x6 x7
  go_loopw [5, 7] (fun lv iv wr => ∃ i : Nat, i ≤ c.nc ∧ iv = .int .i64 i ∧ lv = .int .i64 (clo c.s i) ∧ Hid (Bo c w wr) ∧ Hid (One wr ao m (tk c.p c.q c.r c.s))) (fun _ iv _ => c.nc - (intOf iv).toNat)
  case atStart => exact ⟨0, Nat.zero_le _, rfl, rfl, HX5.out, HO5.out⟩
  case round =>
    clear HX5 HO5
    obtain ⟨i, hi, rfl, rfl, HX, HO⟩ := hrel
    have hi2 : (i : Int) ≤ c.nc := by omega
    obtain ⟨x0, x1, x2, x3, x4, x5, x6, x7⟩ := eight_read HX.out.z
    by_cases hlt : i < c.nc
    · have hlt2 : (i : Int) < c.nc := by omega
      have hlt0 : (0 : Int) ≤ (i : Int) := by omega
      obtain ⟨g, off, e1, _, hc⟩ := HX.out.cfg.y (by omega)
      rw [e1] at x2
      obtain ⟨a0, a1, a2, a3⟩ := hc i hlt
      have hmm := HM.out
      have HL := Lib.hid hlt
      obtain ⟨v0, hv0⟩ : ∃ v, c.p i = v := ⟨_, rfl⟩
      obtain ⟨v1, hv1⟩ : ∃ v, c.q i = v := ⟨_, rfl⟩
      obtain ⟨v2, hv2⟩ : ∃ v, c.r i = v := ⟨_, rfl⟩
      obtain ⟨v3, hv3⟩ : ∃ v, c.s i = v := ⟨_, rfl⟩
      have hal := (Below.refl wr.heap.size wr).alloc (Nat.le_refl _) (.cells #[.int .i64 v0, .int .i64 v1, .int .i64 v2, .int .i64 v3] 74)
      obtain ⟨gt, ot, e2, _, ht⟩ := HO.out.below hal (by omega)
      have t0 := ht (i * 4) (by omega)
      have t1 := ht (i * 4 + 1) (by omega)
      have t2 := ht (i * 4 + 2) (by omega)
      have t3 := ht (i * 4 + 3) (by omega)
      rw [tk_0, hv0] at t0
      rw [tk_1, hv1] at t1
      rw [tk_2, hv2] at t2
      rw [tk_3, hv3] at t3
      have HC3 : Hid (clo c.s (i + 1) = v3) := by show clo _ _ = _; unfold clo; rw [if_neg (by omega), Nat.add_sub_cancel, hv3]
      rw [hv0] at a0
      rw [hv1] at a1
      rw [hv2] at a2
      rw [hv3] at a3
      obtain ⟨j0, hj0⟩ : ∃ j, i * 4 = j := ⟨_, rfl⟩
      obtain ⟨j1, hj1⟩ : ∃ j, j0 + 1 = j := ⟨_, rfl⟩
      obtain ⟨j2, hj2⟩ : ∃ j, j0 + 2 = j := ⟨_, rfl⟩
      obtain ⟨j3, hj3⟩ : ∃ j, j0 + 3 = j := ⟨_, rfl⟩
      rw [hj0] at t0 t1 t2 t3
      rw [hj1] at t1
      rw [hj2] at t2
      rw [hj3] at t3
      have q0 : 4 * (i : Int) = (j0 : Int) := by omega
      have q1 : (j0 : Int) + 1 = (j1 : Int) := by omega
      have q2 : (j0 : Int) + 2 = (j2 : Int) := by omega
      have q3 : (j0 : Int) + 3 = (j3 : Int) := by omega
      have b0 : (j0 : Int) < (m : Int) := by omega
      have b1 : (j1 : Int) < (m : Int) := by omega
      have b2 : (j2 : Int) < (m : Int) := by omega
      have b3 : (j3 : Int) < (m : Int) := by omega
      have s0 : wrap64 (j0 : Int) = (j0 : Int) := Go.IntWalk.wrap64_in _ (by omega)
      have s1 : wrap64 (j1 : Int) = (j1 : Int) := Go.IntWalk.wrap64_in _ (by omega)
      have s2 : wrap64 (j2 : Int) = (j2 : Int) := Go.IntWalk.wrap64_in _ (by omega)
      have s3 : wrap64 (j3 : Int) = (j3 : Int) := Go.IntWalk.wrap64_in _ (by omega)
      have p0 : (0 : Int) ≤ (j0 : Int) := by omega
      have p1 : (0 : Int) ≤ (j1 : Int) := by omega
      have p2 : (0 : Int) ≤ (j2 : Int) := by omega
      have p3 : (0 : Int) ≤ (j3 : Int) := by omega
      subst e2
      have HX2 := Lib.hid (HX.out.alloc (.cells #[.int .i64 v0, .int .i64 v1, .int .i64 v2, .int .i64 v3] 74))
      have HO2 := Lib.hid (HO.out.below hal)
      clear hc hlt hi e1 hv0 hv1 hv2 hv3 hal ht hj0 hj1 hj2 hj3 hmm HX HO
      go_wp2_with fail
      go_quiet (fail)
      go_wp2_with fail
      go_roundw
      case rel => exact ⟨i + 1, HL.out, by go_num, by rw [HC3.out], HX2.out.drewN _, HO2.out⟩
      case measure => have := HL.out; simp [intOf]; omega
    · have hin : c.nc = i := by omega
      have g1 : decide ((i : Int) < c.nc) = false := decide_eq_false (by omega)
      have g2 : decide (i < c.nc) = false := decide_eq_false hlt
      have HIN := Lib.hid hin
      clear hlt hi hi2 hin
      go_wp2_with fail
      refine (HA.out _).mono ?_
      rintro e w6 ⟨rfl, h6⟩
      have HX6 := Lib.hid (HX.out.keep h6)
      have HLL := Lib.hid (HLA.out w6 HX6.out.cfg)
      rw [HIN.out] at HLL
      clear h6 x0 x1 x2 x3 x4 x5 x6 x7
      obtain ⟨x0, x1, x2, x3, x4, x5, x6, x7⟩ := eight_read HX6.out.z
      rw [HIN.out] at x2
      go_wp2_with fail
      refine HLL.out.mono ?_
      rintro e w7 ⟨rfl, h7⟩
      have HX7 := Lib.hid (HX6.out.keep h7)
      clear h7 HLL
      go_wp2_with fail
      go_ret
      exact ⟨rfl, HX7.out.bel⟩
set_option maxHeartbeats 8000000 in
set_option maxRecDepth 100000 in
theorem may_bad (c : CF) (w : World) (h : c.At w) (hf : c.nm ≤ 20 ∧ c.ns ≤ 20 ∧ c.nc ≤ 20) (hw : c.word ≠ ⟨#[]⟩) : Calls Try.prog 7 #[.agg #[.slice c.am c.nm c.cm, .slice c.au c.ns c.cs, .slice c.ac c.nc c.cc, .int .i64 c.li, .int .i64 c.ca, .int .i64 c.le, .int .i64 c.tr, .int .i64 c.bi]] w (Ret (.bool true) w) := by
  have HF := Lib.hid (fun W => few10_any c ⟨by omega, by omega, by omega⟩ W)
  rw [show c.small = true by unfold CF.small; rw [decide_eq_true hf.1, decide_eq_true hf.2.1, decide_eq_true hf.2.2]; rfl] at HF
  have HA := Lib.hid awake10_any
  have HR := Lib.hid (fun W hW => refwrong10_any c W hW)
  rw [← word_eq c] at HR
  have HWR := Lib.hid (fun W hW => wrong_any c W hW)
  have HCK := Lib.hid (fun W hW => check10_bad c W hW hw)
  have HLA := Lib.hid (fun W hW => last_all c W hW)
  have HTK := Lib.hid (fun W hW => ticks_any c.am c.au c.ac c.nm c.cm c.ns c.cs c.nc c.cc c.li c.ca c.le c.tr c.bi c.p c.q c.r c.s (by omega) W hW)
  have HX0 : Hid (Bo c w (w.alloc (.cells #[.slice c.am c.nm c.cm, .slice c.au c.ns c.cs, .slice c.ac c.nc c.cc, .int .i64 c.li, .int .i64 c.ca, .int .i64 c.le, .int .i64 c.tr, .int .i64 c.bi] 67))) := ⟨heap_alloc_new _ _, h.below ((Below.refl _ _).alloc (Nat.le_refl _) _), (Below.refl _ _).alloc (Nat.le_refl _) _⟩
  have n3 : (c.nc : Int) ≤ 20 := by omega
  obtain ⟨wd, hwd⟩ : ∃ x, c.word = x := ⟨_, rfl⟩
  rw [hwd] at HR HWR hw
  obtain ⟨u0, u1, u2, u3⟩ := tl_ne10 hw
  clear hw hwd
  obtain ⟨m, hm⟩ : ∃ m, c.nc * 4 = m := ⟨_, rfl⟩
  have hm4 : 4 * (c.nc : Int) = (m : Int) := by omega
  have hmw : wrap64 (m : Int) = (m : Int) := Go.IntWalk.wrap64_in _ (by omega)
  rw [hm] at HTK
  have HM := Lib.hid hm
  clear h hf hm
  go_enter Try.func7, Try.ntmps7
  go_wp2_with fail
  refine (HF.out _).mono ?_
  rintro e w1 ⟨rfl, h1⟩
  have HX1 := Lib.hid (HX0.out.keep h1)
  clear h1 HX0
  obtain ⟨x0, x1, x2, x3, x4, x5, x6, x7⟩ := eight_read HX1.out.z
  go_wp2_with fail
  refine (HR.out _ HX1.out.cfg).mono ?_
  rintro e w2 ⟨rfl, h2⟩
  have HX2 := Lib.hid (HX1.out.keep h2)
  clear h2 HX1 x0 x1 x2 x3 x4 x5 x6 x7
  obtain ⟨x0, x1, x2, x3, x4, x5, x6, x7⟩ := eight_read HX2.out.z
  go_wp2_with fail
  refine (HTK.out _ HX2.out.cfg.y).mono ?_
  rintro e w3 ⟨h3, ao, cap, rfl, ho⟩
  have HX3 := Lib.hid (HX2.out.keep h3)
  have HO3 := Lib.hid ho
  clear h3 ho HX2 x0 x1 x2 x3 x4 x5 x6 x7
  obtain ⟨x0, x1, x2, x3, x4, x5, x6, x7⟩ := eight_read HX3.out.z
  go_wp2_with fail
  refine (HWR.out _ HX3.out.cfg).mono ?_
  rintro e w4 ⟨rfl, h4⟩
  have HX4 := Lib.hid (HX3.out.keep h4)
  have HO4 := Lib.hid (HO3.out.below h4)
  clear h4 HX3 HO3 x0 x1 x2 x3 x4 x5 x6 x7
  obtain ⟨x0, x1, x2, x3, x4, x5, x6, x7⟩ := eight_read HX4.out.z
  go_wp2_with fail
  refine (HCK.out _ HX4.out.cfg).mono ?_
  rintro e w5 ⟨rfl, h5⟩
  have HX5 := Lib.hid (HX4.out.keep h5)
  have HO5 := Lib.hid (HO4.out.below h5)
  clear h5 HX4 HO4 x0 x1 x2 x3 x4 x5 x6 x7
  obtain ⟨x0, x1, x2, x3, x4, x5, x6, x7⟩ := eight_read HX5.out.z
  go_wp2_with fail
  clear x0 x1 x2 x3 x4 x5 x6 x7
  go_loopw [5, 7] (fun lv iv wr => ∃ i : Nat, i ≤ c.nc ∧ iv = .int .i64 i ∧ lv = .int .i64 (clo c.s i) ∧ Hid (Bo c w wr) ∧ Hid (One wr ao m (tk c.p c.q c.r c.s))) (fun _ iv _ => c.nc - (intOf iv).toNat)
  case atStart => exact ⟨0, Nat.zero_le _, rfl, rfl, HX5.out, HO5.out⟩
  case round =>
    clear HX5 HO5
    obtain ⟨i, hi, rfl, rfl, HX, HO⟩ := hrel
    have hi2 : (i : Int) ≤ c.nc := by omega
    obtain ⟨x0, x1, x2, x3, x4, x5, x6, x7⟩ := eight_read HX.out.z
    by_cases hlt : i < c.nc
    · have hlt2 : (i : Int) < c.nc := by omega
      have hlt0 : (0 : Int) ≤ (i : Int) := by omega
      obtain ⟨g, off, e1, _, hc⟩ := HX.out.cfg.y (by omega)
      rw [e1] at x2
      obtain ⟨a0, a1, a2, a3⟩ := hc i hlt
      have hmm := HM.out
      have HL := Lib.hid hlt
      obtain ⟨v0, hv0⟩ : ∃ v, c.p i = v := ⟨_, rfl⟩
      obtain ⟨v1, hv1⟩ : ∃ v, c.q i = v := ⟨_, rfl⟩
      obtain ⟨v2, hv2⟩ : ∃ v, c.r i = v := ⟨_, rfl⟩
      obtain ⟨v3, hv3⟩ : ∃ v, c.s i = v := ⟨_, rfl⟩
      have hal := (Below.refl wr.heap.size wr).alloc (Nat.le_refl _) (.cells #[.int .i64 v0, .int .i64 v1, .int .i64 v2, .int .i64 v3] 74)
      obtain ⟨gt, ot, e2, _, ht⟩ := HO.out.below hal (by omega)
      have t0 := ht (i * 4) (by omega)
      have t1 := ht (i * 4 + 1) (by omega)
      have t2 := ht (i * 4 + 2) (by omega)
      have t3 := ht (i * 4 + 3) (by omega)
      rw [tk_0, hv0] at t0
      rw [tk_1, hv1] at t1
      rw [tk_2, hv2] at t2
      rw [tk_3, hv3] at t3
      have HC3 : Hid (clo c.s (i + 1) = v3) := by show clo _ _ = _; unfold clo; rw [if_neg (by omega), Nat.add_sub_cancel, hv3]
      rw [hv0] at a0
      rw [hv1] at a1
      rw [hv2] at a2
      rw [hv3] at a3
      obtain ⟨j0, hj0⟩ : ∃ j, i * 4 = j := ⟨_, rfl⟩
      obtain ⟨j1, hj1⟩ : ∃ j, j0 + 1 = j := ⟨_, rfl⟩
      obtain ⟨j2, hj2⟩ : ∃ j, j0 + 2 = j := ⟨_, rfl⟩
      obtain ⟨j3, hj3⟩ : ∃ j, j0 + 3 = j := ⟨_, rfl⟩
      rw [hj0] at t0 t1 t2 t3
      rw [hj1] at t1
      rw [hj2] at t2
      rw [hj3] at t3
      have q0 : 4 * (i : Int) = (j0 : Int) := by omega
      have q1 : (j0 : Int) + 1 = (j1 : Int) := by omega
      have q2 : (j0 : Int) + 2 = (j2 : Int) := by omega
      have q3 : (j0 : Int) + 3 = (j3 : Int) := by omega
      have b0 : (j0 : Int) < (m : Int) := by omega
      have b1 : (j1 : Int) < (m : Int) := by omega
      have b2 : (j2 : Int) < (m : Int) := by omega
      have b3 : (j3 : Int) < (m : Int) := by omega
      have s0 : wrap64 (j0 : Int) = (j0 : Int) := Go.IntWalk.wrap64_in _ (by omega)
      have s1 : wrap64 (j1 : Int) = (j1 : Int) := Go.IntWalk.wrap64_in _ (by omega)
      have s2 : wrap64 (j2 : Int) = (j2 : Int) := Go.IntWalk.wrap64_in _ (by omega)
      have s3 : wrap64 (j3 : Int) = (j3 : Int) := Go.IntWalk.wrap64_in _ (by omega)
      have p0 : (0 : Int) ≤ (j0 : Int) := by omega
      have p1 : (0 : Int) ≤ (j1 : Int) := by omega
      have p2 : (0 : Int) ≤ (j2 : Int) := by omega
      have p3 : (0 : Int) ≤ (j3 : Int) := by omega
      subst e2
      have HX2 := Lib.hid (HX.out.alloc (.cells #[.int .i64 v0, .int .i64 v1, .int .i64 v2, .int .i64 v3] 74))
      have HO2 := Lib.hid (HO.out.below hal)
      clear hc hlt hi e1 hv0 hv1 hv2 hv3 hal ht hj0 hj1 hj2 hj3 hmm HX HO
      go_wp2_with fail
      go_quiet (fail)
      go_wp2_with fail
      go_roundw
      case rel => exact ⟨i + 1, HL.out, by go_num, by rw [HC3.out], HX2.out.drewN _, HO2.out⟩
      case measure => have := HL.out; simp [intOf]; omega
    · have hin : c.nc = i := by omega
      have g1 : decide ((i : Int) < c.nc) = false := decide_eq_false (by omega)
      have g2 : decide (i < c.nc) = false := decide_eq_false hlt
      have HIN := Lib.hid hin
      clear hlt hi hi2 hin
      go_wp2_with fail
      refine (HA.out _).mono ?_
      rintro e w6 ⟨rfl, h6⟩
      have HX6 := Lib.hid (HX.out.keep h6)
      have HLL := Lib.hid (HLA.out w6 HX6.out.cfg)
      rw [HIN.out] at HLL
      clear h6 x0 x1 x2 x3 x4 x5 x6 x7
      obtain ⟨x0, x1, x2, x3, x4, x5, x6, x7⟩ := eight_read HX6.out.z
      rw [HIN.out] at x2
      go_wp2_with fail
      refine HLL.out.mono ?_
      rintro e w7 ⟨rfl, h7⟩
      have HX7 := Lib.hid (HX6.out.keep h7)
      clear h7 HLL
      go_wp2_with fail
      go_ret
      exact ⟨rfl, HX7.out.bel⟩
end Go.Proofs.Ythmbpoldjddheaa
