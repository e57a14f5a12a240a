/- ConfHas, a leaf of its walk (made by gen_cfhl.py). -/
import Derived.Test.YthmbpoldjddheaaCfHasPre
namespace Go.Proofs.Ythmbpoldjddheaa
open Go.ChangeShapes Go.WideShapes Go.ChangeAt Go.RowKit
set_option maxHeartbeats 8000000 in
set_option maxRecDepth 100000 in
theorem has_io (c : CF) (i : Int) (w : World) (h : c.At w) (hf : c.nm ≤ 20 ∧ c.ns ≤ 20 ∧ c.nc ≤ 20) (k : Nat) (hik : i = (k : Int) + 1) (hm : k < c.nm) (hs : ¬ k < c.ns) : Calls Try.prog 8 #[.agg #[.slice c.am c.nm c.cm, .slice c.au c.ns c.cs, .slice c.ac c.nc c.cc, .int .i64 c.li, .int .i64 c.ca, .int .i64 c.le, .int .i64 c.tr, .int .i64 c.bi], .int .i64 i] w (Ret (.bool true) w) := by
  have HF := Lib.hid (fun W => few10_any c ⟨by omega, by omega, by omega⟩ W)
  rw [show c.small = true by unfold CF.small; rw [decide_eq_true hf.1, decide_eq_true hf.2.1, decide_eq_true hf.2.2]; rfl] at HF
  have HA := Lib.hid awake10_any
  have HM := Lib.hid (fun W (hW : c.At W) => member_any c i (c.m1 k) (c.m2 k) 0 W (fun W' hb => by rw [hik]; exact numbM_in c.am c.nm c.cm k c.m1 c.m2 9 (by omega) hm W' (hW.m.below hb)))
  have HS := Lib.hid (fun W (hW : c.At W) => sec_any c i 0 0 10 W (fun W' hb => by exact numbS_out c.au c.ns c.cs i 10 (by omega) W'))
  obtain ⟨xm, hxm⟩ : ∃ x, c.m1 k = x := ⟨_, rfl⟩
  obtain ⟨ym, hym⟩ : ∃ x, c.m2 k = x := ⟨_, rfl⟩
  rw [hxm, hym] at HM
  have HCP := Lib.hid (fun W hW => copy10_any c W hW)
  have HAT := Lib.hid h
  have HX0 : Hid (Bo c w (w.alloc (.cells #[.slice c.am c.nm c.cm, .slice c.au c.ns c.cs, .slice c.ac c.nc c.cc, .int .i64 c.li, .int .i64 c.ca, .int .i64 c.le, .int .i64 c.tr, .int .i64 c.bi] 67))) := ⟨heap_alloc_new _ _, h.below ((Below.refl _ _).alloc (Nat.le_refl _) _), (Below.refl _ _).alloc (Nat.le_refl _) _⟩
  have g1 : decide (1 ≤ i) = true := decide_eq_true (by omega)
  have g2 : decide (i ≤ (c.nm : Int)) = true := decide_eq_true (by omega)
  have g3 : decide (i ≤ (c.ns : Int)) = false := decide_eq_false (by omega)
  have g4 : i - 1 = (k : Int) := by omega
  have g5 : wrap64 (k : Int) = (k : Int) := Go.IntWalk.wrap64_in _ (by omega)
  have g6 : (0 : Int) ≤ (k : Int) := by omega
  have g7 : (k : Int) < (c.nm : Int) := by omega
  have HKM := Lib.hid hm
  have HKS := Lib.hid hs
  clear h hf hik hm hs
  go_enter Try.func8, Try.ntmps8
  go_wp2_with fail
  refine (HF.out _).mono ?_
  rintro e w1 ⟨rfl, h1⟩
  have HX1 := Lib.hid (HX0.out.keep h1)
  clear h1 HX0
  obtain ⟨x0, x1, x2, x3, x4, x5, x6, x7⟩ := eight_read HX1.out.z
  go_wp2_with fail
  refine (HM.out _ HX1.out.cfg).mono ?_
  rintro e w2 ⟨rfl, h2⟩
  have HX2 := Lib.hid ((HX1.out.keep h2).alloc (.cells #[.int .i64 xm, .int .i64 ym] 77))
  have HP2 : Hid ((w2.alloc (.cells #[.int .i64 xm, .int .i64 ym] 77)).heap[w2.heap.size]? = some (.cells #[.int .i64 xm, .int .i64 ym] 77 (0, 0))) := heap_alloc_new _ _
  clear h2 HX1 x0 x1 x2 x3 x4 x5 x6 x7
  obtain ⟨x0, x1, x2, x3, x4, x5, x6, x7⟩ := eight_read HX2.out.z
  go_wp2_with fail
  refine (HS.out _ HX2.out.cfg).mono ?_
  rintro e w3 ⟨rfl, h3⟩
  have HX3 := Lib.hid ((HX2.out.keep h3).alloc (.cells #[.int .i64 0, .int .i64 0] 81))
  have HP3 := Lib.hid (keepA (keepB HP2.out h3) (.cells #[.int .i64 0, .int .i64 0] 81))
  have HQ3 : Hid ((w3.alloc (.cells #[.int .i64 0, .int .i64 0] 81)).heap[w3.heap.size]? = some (.cells #[.int .i64 0, .int .i64 0] 81 (0, 0))) := heap_alloc_new _ _
  clear h3 HX2 HP2 x0 x1 x2 x3 x4 x5 x6 x7
  obtain ⟨x0, x1, x2, x3, x4, x5, x6, x7⟩ := eight_read HX3.out.z
  obtain ⟨p0, p1⟩ := two_read HP3.out
  obtain ⟨q0, q1⟩ := two_read HQ3.out
  obtain ⟨gg, oo, ee, _, hcc⟩ := HX3.out.cfg.m (by have := HKM.out; omega)
  rw [ee] at x0
  obtain ⟨a0, a1⟩ := hcc k HKM.out
  rw [hxm] at a0
  rw [hym] at a1
  clear hcc ee
  go_wp2_with fail
  go_quiet (fail)
  generalize hV : World.drewN (w3.alloc (.cells #[.int .i64 0, .int .i64 0] 81)) _ = V1
  have HX3' : Hid (Bo c w V1) := by rw [← hV]; exact HX3.out.drewN _
  have HP3' : Hid (V1.heap[w2.heap.size]? = some (.cells #[.int .i64 xm, .int .i64 ym] 77 (0, 0))) := by rw [← hV]; exact HP3.out
  have HQ3' : Hid (V1.heap[w3.heap.size]? = some (.cells #[.int .i64 0, .int .i64 0] 81 (0, 0))) := by rw [← hV]; exact HQ3.out
  clear hV a0 a1 x0 x1 x2 x3 x4 x5 x6 x7 p0 p1 q0 q1 HX3 HP3 HQ3
  have HX3 := HX3'
  have HP3 := HP3'
  have HQ3 := HQ3'
  clear HX3' HP3' HQ3'
  obtain ⟨x0, x1, x2, x3, x4, x5, x6, x7⟩ := eight_read HX3.out.z
  obtain ⟨p0, p1⟩ := two_read HP3.out
  obtain ⟨q0, q1⟩ := two_read HQ3.out
  go_wp2_with fail
  clear p0 p1 q0 q1 x0 x1 x2 x3 x4 x5 x6 x7 HP3 HQ3
  obtain ⟨W1, rfl⟩ : ∃ x, x = V1 := ⟨_, rfl⟩
  refine (HCP.out _ HX3.out.cfg).mono ?_
  rintro e w4 ⟨h4, am, au, ac, cm, cs, cc, rfl, rm, ru, ry⟩
  have LM := Lib.hid (World.ownsRow.lt rm)
  have LU := Lib.hid (World.ownsRow.lt ru)
  have LY := Lib.hid (World.ownsRow.lt ry)
  have HX4 := Lib.hid ((HX3.out.keep h4).alloc (.cells #[.slice am c.nm cm, .slice au c.ns cs, .slice ac c.nc cc, .int .i64 c.li, .int .i64 c.ca, .int .i64 c.le, .int .i64 c.tr, .int .i64 c.bi] 67))
  have HD4 : Hid ((w4.alloc (.cells #[.slice am c.nm cm, .slice au c.ns cs, .slice ac c.nc cc, .int .i64 c.li, .int .i64 c.ca, .int .i64 c.le, .int .i64 c.tr, .int .i64 c.bi] 67)).heap[w4.heap.size]? = some (.cells #[.slice am c.nm cm, .slice au c.ns cs, .slice ac c.nc cc, .int .i64 c.li, .int .i64 c.ca, .int .i64 c.le, .int .i64 c.tr, .int .i64 c.bi] 67 (0, 0))) := heap_alloc_new _ _
  have RM4 := Lib.hid (World.ownsRow.alloc rm (.cells #[.slice am c.nm cm, .slice au c.ns cs, .slice ac c.nc cc, .int .i64 c.li, .int .i64 c.ca, .int .i64 c.le, .int .i64 c.tr, .int .i64 c.bi] 67))
  have RU4 := Lib.hid (World.ownsRow.alloc ru (.cells #[.slice am c.nm cm, .slice au c.ns cs, .slice ac c.nc cc, .int .i64 c.li, .int .i64 c.ca, .int .i64 c.le, .int .i64 c.tr, .int .i64 c.bi] 67))
  have RY4 := Lib.hid (World.ownsRow.alloc ry (.cells #[.slice am c.nm cm, .slice au c.ns cs, .slice ac c.nc cc, .int .i64 c.li, .int .i64 c.ca, .int .i64 c.le, .int .i64 c.tr, .int .i64 c.bi] 67))
  have HX1W : Hid (w.heap.size < W1.heap.size) := lt_of_block HX3.out.z
  have HW4 : Hid (W1.heap.size ≤ (w4.alloc (.cells #[.slice am c.nm cm, .slice au c.ns cs, .slice ac c.nc cc, .int .i64 c.li, .int .i64 c.ca, .int .i64 c.le, .int .i64 c.tr, .int .i64 c.bi] 67)).heap.size) := Nat.le_trans h4.size (by simp)
  clear h4 rm ru ry HX3
  obtain ⟨y0, y1, y2, y3, y4, y5, y6, y7⟩ := eight_read HX4.out.z
  have HSM := Lib.hid (show Calls Try.prog 45 #[.agg #[.slice am c.nm cm, .slice au c.ns cs, .slice ac c.nc cc, .int .i64 c.li, .int .i64 c.ca, .int .i64 c.le, .int .i64 c.tr, .int .i64 c.bi], .agg #[.slice c.am c.nm c.cm, .slice c.au c.ns c.cs, .slice c.ac c.nc c.cc, .int .i64 c.li, .int .i64 c.ca, .int .i64 c.le, .int .i64 c.tr, .int .i64 c.bi]] (w4.alloc (.cells #[.slice am c.nm cm, .slice au c.ns cs, .slice ac c.nc cc, .int .i64 c.li, .int .i64 c.ca, .int .i64 c.le, .int .i64 c.tr, .int .i64 c.bi] 67)) (Ret (.bool true) (w4.alloc (.cells #[.slice am c.nm cm, .slice au c.ns cs, .slice ac c.nc cc, .int .i64 c.li, .int .i64 c.ca, .int .i64 c.le, .int .i64 c.tr, .int .i64 c.bi] 67))) from same10_any { c with am := am, cm := cm, au := au, cs := cs, ac := ac, cc := cc } c.am c.au c.ac c.cm c.cs c.cc _ ⟨row_twL RM4.out, row_twL RU4.out, row_frL RY4.out, HX4.out.cfg.few⟩ HX4.out.cfg.m HX4.out.cfg.u HX4.out.cfg.y)
  obtain ⟨DD, hDD⟩ : ∃ x, w4.heap.size = x := ⟨_, rfl⟩
  rw [hDD] at LM LU LY HD4
  go_wp2_with fail
  refine HSM.out.mono ?_
  rintro e w5 ⟨rfl, h5⟩
  have HX5 := Lib.hid (HX4.out.keep h5)
  have HD5 := Lib.hid (keepB HD4.out h5)
  have RM5 := Lib.hid (row_bel RM4.out h5)
  have RU5 := Lib.hid (row_bel RU4.out h5)
  have RY5 := Lib.hid (row_bel RY4.out h5)
  have HW14 : Hid (W1.heap.size ≤ w5.heap.size) := Nat.le_trans HW4.out h5.size
  clear h5 HSM HX4 HD4 RM4 RU4 RY4 y0 y1 y2 y3 y4 y5 y6 y7
  obtain ⟨x0, x1, x2, x3, x4, x5, x6, x7⟩ := eight_read HD5.out
  have HC2 := Lib.hid (copy10_any { c with am := am, cm := cm, au := au, cs := cs, ac := ac, cc := cc } w5 ⟨row_twL RM5.out, row_twL RU5.out, row_frL RY5.out, HX5.out.cfg.few⟩)
  (try rw [hDD])
  go_wp2_with fail
  (try rw [hDD])
  refine HC2.out.mono ?_
  rintro e w6 ⟨h6, am2, au2, ac2, cm2, cs2, cc2, rfl, rm2, ru2, ry2⟩
  have HX7 := Lib.hid ((HX5.out.keep h6).alloc (.cells #[.slice am2 c.nm cm2, .slice au2 c.ns cs2, .slice ac2 c.nc cc2, .int .i64 c.li, .int .i64 c.ca, .int .i64 c.le, .int .i64 c.tr, .int .i64 c.bi] 67))
  have HDw7 := Lib.hid (keepA (keepB HD5.out h6) (.cells #[.slice am2 c.nm cm2, .slice au2 c.ns cs2, .slice ac2 c.nc cc2, .int .i64 c.li, .int .i64 c.ca, .int .i64 c.le, .int .i64 c.tr, .int .i64 c.bi] 67))
  have HE7 : Hid ((w6.alloc (.cells #[.slice am2 c.nm cm2, .slice au2 c.ns cs2, .slice ac2 c.nc cc2, .int .i64 c.li, .int .i64 c.ca, .int .i64 c.le, .int .i64 c.tr, .int .i64 c.bi] 67)).heap[w6.heap.size]? = some (.cells #[.slice am2 c.nm cm2, .slice au2 c.ns cs2, .slice ac2 c.nc cc2, .int .i64 c.li, .int .i64 c.ca, .int .i64 c.le, .int .i64 c.tr, .int .i64 c.bi] 67 (0, 0))) := heap_alloc_new _ _
  have RM7 := Lib.hid (World.ownsRow.alloc (row_bel RM5.out h6) (.cells #[.slice am2 c.nm cm2, .slice au2 c.ns cs2, .slice ac2 c.nc cc2, .int .i64 c.li, .int .i64 c.ca, .int .i64 c.le, .int .i64 c.tr, .int .i64 c.bi] 67))
  have RU7 := Lib.hid (World.ownsRow.alloc (row_bel RU5.out h6) (.cells #[.slice am2 c.nm cm2, .slice au2 c.ns cs2, .slice ac2 c.nc cc2, .int .i64 c.li, .int .i64 c.ca, .int .i64 c.le, .int .i64 c.tr, .int .i64 c.bi] 67))
  have RY7 := Lib.hid (World.ownsRow.alloc (row_bel RY5.out h6) (.cells #[.slice am2 c.nm cm2, .slice au2 c.ns cs2, .slice ac2 c.nc cc2, .int .i64 c.li, .int .i64 c.ca, .int .i64 c.le, .int .i64 c.tr, .int .i64 c.bi] 67))
  have XM7 := Lib.hid (World.ownsRow.alloc rm2 (.cells #[.slice am2 c.nm cm2, .slice au2 c.ns cs2, .slice ac2 c.nc cc2, .int .i64 c.li, .int .i64 c.ca, .int .i64 c.le, .int .i64 c.tr, .int .i64 c.bi] 67))
  have XU7 := Lib.hid (World.ownsRow.alloc ru2 (.cells #[.slice am2 c.nm cm2, .slice au2 c.ns cs2, .slice ac2 c.nc cc2, .int .i64 c.li, .int .i64 c.ca, .int .i64 c.le, .int .i64 c.tr, .int .i64 c.bi] 67))
  have XY7 := Lib.hid (World.ownsRow.alloc ry2 (.cells #[.slice am2 c.nm cm2, .slice au2 c.ns cs2, .slice ac2 c.nc cc2, .int .i64 c.li, .int .i64 c.ca, .int .i64 c.le, .int .i64 c.tr, .int .i64 c.bi] 67))
  have HDW : Hid (DD ≤ w5.heap.size) := Nat.le_of_lt (lt_of_block HD5.out)
  have HED : Hid (DD ≤ w6.heap.size) := Nat.le_trans HDW.out h6.size
  have HW15 : Hid (W1.heap.size ≤ w6.heap.size ∧ w6.heap.size ≤ (w6.alloc (.cells #[.slice am2 c.nm cm2, .slice au2 c.ns cs2, .slice ac2 c.nc cc2, .int .i64 c.li, .int .i64 c.ca, .int .i64 c.le, .int .i64 c.tr, .int .i64 c.bi] 67)).heap.size) := ⟨Nat.le_trans HW14.out h6.size, by simp⟩
  clear h6 rm2 ru2 ry2 HC2 HX5 HD5 RM5 RU5 RY5 x0 x1 x2 x3 x4 x5 x6 x7
  obtain ⟨EE, hEE⟩ : ∃ x, w6.heap.size = x := ⟨_, rfl⟩
  rw [hEE] at HE7 HED HW15
  have n1 : (c.nm : Int) ≤ 1000 := by have := HX7.out.cfg.few.1; omega
  have n2 : (c.ns : Int) ≤ 1000 := by have := HX7.out.cfg.few.2.1; omega
  have n3 : (c.nc : Int) ≤ 1000 := by have := HX7.out.cfg.few.2.2; omega
  go_wp2_with fail
  (try rw [hEE])
  clear hEE hDD
  generalize w6.alloc (.cells #[.slice am2 c.nm cm2, .slice au2 c.ns cs2, .slice ac2 c.nc cc2, .int .i64 c.li, .int .i64 c.ca, .int .i64 c.le, .int .i64 c.tr, .int .i64 c.bi] 67) = w7 at *
  go_loopw [11] (fun iv wr => ∃ j : Nat, j ≤ c.nm ∧ iv = .int .i64 j ∧ Hid (w7.grownBy wr (Value.slice am c.nm cm).ownBlock) ∧ Hid (∃ xs, wr.ownsRow W1.heap.size 77 2 (.slice am c.nm cm) c.nm xs ∧ Nums xs)) (fun iv _ => c.nm - (intOf iv).toNat)
  case atStart => exact ⟨0, Nat.zero_le _, rfl, ⟨rfl, rfl, rfl, Nat.le_refl _, fun _ _ _ => rfl⟩, _, RM7.out, twL_nums _ _ _⟩
  case round =>
    obtain ⟨j, hj, rfl, HG, HR⟩ := hrel
    have hj2 : (j : Int) ≤ c.nm := by omega
    have hd := (HG.out.block DD (lt_of_block HDw7.out) (fun e => by have := (LM.out DD e.symm).2; omega)).trans HDw7.out
    obtain ⟨x0, x1, x2, x3, x4, x5, x6, x7⟩ := eight_read hd
    by_cases hlt : j < c.nm
    · have hlt2 : (j : Int) < c.nm := by omega
      have hlt0 : (0 : Int) ≤ (j : Int) := by omega
      obtain ⟨xs, hrow, hnum⟩ := HR.out
      obtain ⟨g, cap, k, e1, _, hcell, hfree, hst⟩ := row_num hrow hnum (by omega) (j * 2 + 1) (by omega)
      injection e1 with e1 e2 e3
      rw [e1] at x0
      have HST := Lib.hid hst
      have HGG := Lib.hid HG.out
      have HNU := Lib.hid hnum
      have HL := Lib.hid hlt
      clear hst hrow hnum hlt hj hd e1 e2 e3 HR HG
      go_wp2_with fail
      go_roundw
      case rel => exact ⟨j + 1, HL.out, by go_num, gr_tr HGG.out (HST.out _).2, _, (HST.out _).1, HNU.out.set _ _⟩
      case measure => have := HL.out; simp [intOf]; omega
    · have g1 : decide ((j : Int) < c.nm) = false := decide_eq_false (by omega)
      have g2 : decide (j < c.nm) = false := decide_eq_false hlt
      have HDN := Lib.hid hd
      clear hlt hj hj2 hd
      obtain ⟨w8, rfl⟩ : ∃ x, x = wr := ⟨_, rfl⟩
      have HDw8 := HDN
      have HG1 := HG
      have RUw8 := Lib.hid (row_keep RU7.out HG1.out (own_apart RM7.out RU7.out (by decide)))
      have RYw8 := Lib.hid (row_keep RY7.out HG1.out (own_apart RM7.out RY7.out (by decide)))
      clear HG HR
      go_wp2_with fail
      clear x0 x1 x2 x3 x4 x5 x6 x7 HDN
      go_loopw [12] (fun iv wr => ∃ j : Nat, j ≤ c.ns ∧ iv = .int .i64 j ∧ Hid (w8.grownBy wr (Value.slice au c.ns cs).ownBlock) ∧ Hid (∃ xs, wr.ownsRow W1.heap.size 81 2 (.slice au c.ns cs) c.ns xs ∧ Nums xs)) (fun iv _ => c.ns - (intOf iv).toNat)
      case atStart => exact ⟨0, Nat.zero_le _, rfl, ⟨rfl, rfl, rfl, Nat.le_refl _, fun _ _ _ => rfl⟩, _, RUw8.out, twL_nums _ _ _⟩
      case round =>
        obtain ⟨j, hj, rfl, HG, HR⟩ := hrel
        have hj2 : (j : Int) ≤ c.ns := by omega
        have hd := (HG.out.block DD (lt_of_block HDw8.out) (fun e => by have := (LU.out DD e.symm).2; omega)).trans HDw8.out
        obtain ⟨x0, x1, x2, x3, x4, x5, x6, x7⟩ := eight_read hd
        by_cases hlt : j < c.ns
        · have hlt2 : (j : Int) < c.ns := by omega
          have hlt0 : (0 : Int) ≤ (j : Int) := by omega
          obtain ⟨xs, hrow, hnum⟩ := HR.out
          obtain ⟨g, cap, k, e1, _, hcell, hfree, hst⟩ := row_num hrow hnum (by omega) (j * 2) (by omega)
          injection e1 with e1 e2 e3
          rw [e1] at x1
          have HST := Lib.hid hst
          have HGG := Lib.hid HG.out
          have HNU := Lib.hid hnum
          have HL := Lib.hid hlt
          clear hst hrow hnum hlt hj hd e1 e2 e3 HR HG
          go_wp2_with fail
          go_roundw
          case rel => exact ⟨j + 1, HL.out, by go_num, gr_tr HGG.out (HST.out _).2, _, (HST.out _).1, HNU.out.set _ _⟩
          case measure => have := HL.out; simp [intOf]; omega
        · have g1 : decide ((j : Int) < c.ns) = false := decide_eq_false (by omega)
          have g2 : decide (j < c.ns) = false := decide_eq_false hlt
          have HDN := Lib.hid hd
          clear hlt hj hj2 hd
          obtain ⟨w9, rfl⟩ : ∃ x, x = wr := ⟨_, rfl⟩
          have HDw9 := HDN
          have HG2 := HG
          have RYw9 := Lib.hid (row_keep RYw8.out HG2.out (own_apart RUw8.out RYw8.out (by decide)))
          clear HG HR
          go_wp2_with fail
          clear x0 x1 x2 x3 x4 x5 x6 x7 HDN
          go_loopw [13] (fun iv wr => ∃ j : Nat, j ≤ c.nc ∧ iv = .int .i64 j ∧ Hid (w9.grownBy wr (Value.slice ac c.nc cc).ownBlock) ∧ Hid (∃ xs, wr.ownsRow W1.heap.size 74 4 (.slice ac c.nc cc) c.nc xs ∧ Nums xs)) (fun iv _ => c.nc - (intOf iv).toNat)
          case atStart => exact ⟨0, Nat.zero_le _, rfl, ⟨rfl, rfl, rfl, Nat.le_refl _, fun _ _ _ => rfl⟩, _, RYw9.out, frL_nums _ _ _ _ _⟩
          case round =>
            obtain ⟨j, hj, rfl, HG, HR⟩ := hrel
            have hj2 : (j : Int) ≤ c.nc := by omega
            have hd := (HG.out.block DD (lt_of_block HDw9.out) (fun e => by have := (LY.out DD e.symm).2; omega)).trans HDw9.out
            obtain ⟨x0, x1, x2, x3, x4, x5, x6, x7⟩ := eight_read hd
            by_cases hlt : j < c.nc
            · have hlt2 : (j : Int) < c.nc := by omega
              have hlt0 : (0 : Int) ≤ (j : Int) := by omega
              obtain ⟨xs, hrow, hnum⟩ := HR.out
              obtain ⟨g, cap, k, e1, _, hcell, hfree, hst⟩ := row_num hrow hnum (by omega) (j * 4) (by omega)
              injection e1 with e1 e2 e3
              rw [e1] at x2
              have HST := Lib.hid hst
              have HGG := Lib.hid HG.out
              have HNU := Lib.hid hnum
              have HL := Lib.hid hlt
              clear hst hrow hnum hlt hj hd e1 e2 e3 HR HG
              go_wp2_with fail
              go_roundw
              case rel => exact ⟨j + 1, HL.out, by go_num, gr_tr HGG.out (HST.out _).2, _, (HST.out _).1, HNU.out.set _ _⟩
              case measure => have := HL.out; simp [intOf]; omega
            · have g1 : decide ((j : Int) < c.nc) = false := decide_eq_false (by omega)
              have g2 : decide (j < c.nc) = false := decide_eq_false hlt
              have HDN := Lib.hid hd
              clear hlt hj hj2 hd
              obtain ⟨w10, rfl⟩ : ∃ x, x = wr := ⟨_, rfl⟩
              have l7 : W1.heap.size ≤ w7.heap.size := Nat.le_trans HW15.out.1 HW15.out.2
              have l8 := Nat.le_trans l7 HG1.out.size
              have l9 := Nat.le_trans l8 HG2.out.size
              have B1 := grown_lo HG1.out LM.out l7
              have B2 := grown_lo HG2.out LU.out l8
              have B3 := grown_lo HG.out LY.out l9
              have BB := (B1.trans B2).trans B3
              have he7 := lt_of_block HE7.out
              have e8 := (grown_far HG1.out LM.out EE he7 (Or.inr HED.out)).trans HE7.out
              have e9 := (grown_far HG2.out LU.out EE (lt_of_block e8) (Or.inr HED.out)).trans e8
              have HE10 := Lib.hid ((grown_far HG.out LY.out EE (lt_of_block e9) (Or.inr HED.out)).trans e9)
              have XM10 := Lib.hid (row_far (row_far (row_far XM7.out HG1.out LM.out HDW.out) HG2.out LU.out HDW.out) HG.out LY.out HDW.out)
              have XU10 := Lib.hid (row_far (row_far (row_far XU7.out HG1.out LM.out HDW.out) HG2.out LU.out HDW.out) HG.out LY.out HDW.out)
              have XY10 := Lib.hid (row_far (row_far (row_far XY7.out HG1.out LM.out HDW.out) HG2.out LU.out HDW.out) HG.out LY.out HDW.out)
              have bw := HX7.out.bel.trans (BB.mono (Nat.le_of_lt HX1W.out))
              have HX10 : Hid (Bo c w w10) := ⟨(BB.block w.heap.size HX1W.out).trans HX7.out.z, HAT.out.below bw, bw⟩
              clear l7 l8 l9 B1 B2 B3 BB he7 e8 e9 bw HG HG1 HG2 HR HDN
              go_wp2_with fail
              refine (HA.out _).mono ?_
              rintro e w11 ⟨rfl, h11⟩
              have HX11 := Lib.hid (HX10.out.keep h11)
              have HE11 := Lib.hid (keepB HE10.out h11)
              have HSM := Lib.hid (show Calls Try.prog 45 #[.agg #[.slice am2 c.nm cm2, .slice au2 c.ns cs2, .slice ac2 c.nc cc2, .int .i64 c.li, .int .i64 c.ca, .int .i64 c.le, .int .i64 c.tr, .int .i64 c.bi], .agg #[.slice c.am c.nm c.cm, .slice c.au c.ns c.cs, .slice c.ac c.nc c.cc, .int .i64 c.li, .int .i64 c.ca, .int .i64 c.le, .int .i64 c.tr, .int .i64 c.bi]] w11 (Ret (.bool true) w11) from same10_any { c with am := am2, cm := cm2, au := au2, cs := cs2, ac := ac2, cc := cc2 } c.am c.au c.ac c.cm c.cs c.cc _ ⟨row_twL (row_bel XM10.out h11), row_twL (row_bel XU10.out h11), row_frL (row_bel XY10.out h11), HX11.out.cfg.few⟩ HX11.out.cfg.m HX11.out.cfg.u HX11.out.cfg.y)
              clear h11 x0 x1 x2 x3 x4 x5 x6 x7
              obtain ⟨x0, x1, x2, x3, x4, x5, x6, x7⟩ := eight_read HE11.out
              obtain ⟨y0, y1, y2, y3, y4, y5, y6, y7⟩ := eight_read HX11.out.z
              go_wp2_with fail
              refine HSM.out.mono ?_
              rintro e w12 ⟨rfl, h12⟩
              have HX12 := Lib.hid (HX11.out.keep h12)
              clear h12 HSM
              go_wp2_with fail
              go_ret
              exact ⟨rfl, HX12.out.bel⟩
end Go.Proofs.Ythmbpoldjddheaa
