/- The document's Wrong, walked (made by gen_cf8.py). -/
import Derived.Test.YthmbpoldjddheaaCfMayMath
import Derived.Deep.RegionWith
namespace Go.Proofs.Ythmbpoldjddheaa
open Go.ChangeShapes Go.WideShapes Go.ChangeAt Go.RowKit
/-- The document's order of things. -/
def CF.d1 (c : CF) : Bool := wi 2 16 (c.nm : Int)
def CF.d3 (c : CF) : Bool := wi 1 8 (c.ns : Int)
def CF.d5 (c : CF) : Bool := wi 1 4 (c.nc : Int)
def CF.e2 (c : CF) : Bool := allB c.nm (fun i => mMay (c.m1 i) (c.m2 i))
def CF.e4 (c : CF) : Bool := allB c.ns (fun i => sMay (c.s1 i) (c.s2 i))
def CF.e6 (c : CF) : Bool := allB c.nc (cyB c.p c.q c.r c.s)
def CF.rword (c : CF) : ByteArray :=
  if c.d1 = false then ⟨#[109, 101, 109, 98, 101, 114, 115]⟩ else if c.e2 = false then ⟨#[109, 101, 109, 98, 101, 114, 115]⟩ else if c.d3 = false then ⟨#[115, 101, 99, 115]⟩ else if c.e4 = false then ⟨#[115, 101, 99, 115]⟩ else if c.d5 = false then ⟨#[99, 121, 99, 108, 101, 115]⟩ else if c.e6 = false then ⟨#[99, 121, 99, 108, 101, 115]⟩ else if c.b4 = false then ⟨#[108, 105, 110, 101]⟩ else if c.b5 = false then ⟨#[99, 97, 112, 105, 116, 97, 108]⟩ else if c.b6 = false then ⟨#[108, 101, 97, 100]⟩ else if c.b7 = false then ⟨#[116, 114, 97, 100, 101, 115]⟩ else if c.b8 = false then ⟨#[98, 105, 100, 115]⟩ else ⟨#[]⟩
/-- The config's box. -/
structure Bo (c : CF) (w wr : World) : Prop where
  z : wr.heap[w.heap.size]? = some (.cells #[.slice c.am c.nm c.cm, .slice c.au c.ns c.cs, .slice c.ac c.nc c.cc, .int .i64 c.li, .int .i64 c.ca, .int .i64 c.le, .int .i64 c.tr, .int .i64 c.bi] 67 (0, 0))
  cfg : c.At wr
  bel : Below w.heap.size w wr
theorem Bo.drewN {c : CF} {w wr : World} (h : Bo c w wr) (q : Nat) : Bo c w (wr.drewN q) := ⟨h.z, ⟨h.cfg.m, h.cfg.u, h.cfg.y, h.cfg.few⟩, below_drewN h.bel q⟩
theorem Bo.alloc {c : CF} {w wr : World} (h : Bo c w wr) (o : Obj) : Bo c w (wr.alloc o) := ⟨keepA h.z o, h.cfg.below ((Below.refl _ _).alloc (Nat.le_refl _) _), h.bel.alloc h.bel.size _⟩
set_option maxHeartbeats 16000000 in
set_option maxRecDepth 100000 in
theorem refwrong10_any (c : CF) (w : World) (h : c.At w) : Calls Try.prog 37 #[.agg #[.slice c.am c.nm c.cm, .slice c.au c.ns c.cs, .slice c.ac c.nc c.cc, .int .i64 c.li, .int .i64 c.ca, .int .i64 c.le, .int .i64 c.tr, .int .i64 c.bi]] w (Ret (.string c.rword) w) := by
  have HI := Lib.hid in_any
  have HX0 : Hid (Bo c w (w.alloc (.cells #[.slice c.am c.nm c.cm, .slice c.au c.ns c.cs, .slice c.ac c.nc c.cc, .int .i64 c.li, .int .i64 c.ca, .int .i64 c.le, .int .i64 c.tr, .int .i64 c.bi] 67))) := ⟨heap_alloc_new _ _, h.below ((Below.refl _ _).alloc (Nat.le_refl _) _), (Below.refl _ _).alloc (Nat.le_refl _) _⟩
  have n1 : (c.nm : Int) ≤ 1000 := by have := h.few.1; omega
  have n2 : (c.ns : Int) ≤ 1000 := by have := h.few.2.1; omega
  have n3 : (c.nc : Int) ≤ 1000 := by have := h.few.2.2; omega
  clear h
  go_enter Try.func37, Try.ntmps37
  go_wp2_with fail
  have HX := HX0
  clear HX0
  obtain ⟨x0, x1, x2, x3, x4, x5, x6, x7⟩ := eight_read HX.out.z
  refine (HI.out (c.nm : Int) 2 16 _).mono ?_
  rintro e wx ⟨rfl, rfl⟩
  cases h1 : c.d1 with
  | false =>
    rw [show wi 2 16 (c.nm : Int) = false from h1]
    go_wp2_with fail
    go_ret
    exact ⟨by
      show Ending.returned (Value.string ⟨#[109, 101, 109, 98, 101, 114, 115]⟩) = Ending.returned (Value.string c.rword)
      unfold CF.rword
      simp [h1], HX.out.bel⟩
  | true =>
    rw [show wi 2 16 (c.nm : Int) = true from h1]
    go_wp2_with fail
    go_loopw [3] (fun iv wr => ∃ i : Nat, i ≤ c.nm ∧ iv = .int .i64 i ∧ (∀ j, j < i → mMay (c.m1 j) (c.m2 j) = true) ∧ Hid (Bo c w wr)) (fun iv _ => c.nm - (intOf iv).toNat)
    case atStart => exact ⟨0, Nat.zero_le _, rfl, fun j hj => by omega, HX.out⟩
    case round =>
      clear HX
      obtain ⟨i, hi, rfl, hup, HX⟩ := hrel
      have HU := Lib.hid hup
      clear hup
      have hi2 : (i : Int) ≤ c.nm := by omega
      obtain ⟨x0, x1, x2, x3, x4, x5, x6, x7⟩ := eight_read HX.out.z
      by_cases hlt : i < c.nm
      · have hlt2 : (i : Int) < c.nm := by omega
        obtain ⟨g, off, e1, _, hc⟩ := HX.out.cfg.m (by omega)
        rw [e1] at x0
        obtain ⟨a0, a1⟩ := hc i hlt
        have HL := Lib.hid hlt
        clear hc hlt hi e1
        obtain ⟨v0, hv0⟩ : ∃ v, c.m1 i = v := ⟨_, rfl⟩
        obtain ⟨v1, hv1⟩ : ∃ v, c.m2 i = v := ⟨_, rfl⟩
        have HM : Hid (mMay (c.m1 i) (c.m2 i) = (wi 0 1099511627776 v0 && wi 0 1099511627776 v1)) := by show mMay _ _ = _; rw [hv0, hv1]; rfl
        rw [hv0] at a0
        rw [hv1] at a1
        clear hv0 hv1
        go_wp2_with fail
        refine (HI.out v0 0 1099511627776 _).mono ?_
        rintro e wx ⟨rfl, rfl⟩
        cases hA : wi 0 1099511627776 v0 with
        | false =>
          have hE : c.e2 = false := allB_false HL.out (by rw [HM.out, hA]; rfl)
          go_wp2_with fail
          go_ret
          exact ⟨by
            show Ending.returned (Value.string ⟨#[109, 101, 109, 98, 101, 114, 115]⟩) = Ending.returned (Value.string c.rword)
            unfold CF.rword
            simp [h1, hE], HX.out.bel⟩
        | true =>
          go_wp2_with fail
          refine (HI.out v1 0 1099511627776 _).mono ?_
          rintro e wx ⟨rfl, rfl⟩
          cases hB : wi 0 1099511627776 v1 with
          | false =>
            have hE : c.e2 = false := allB_false HL.out (by rw [HM.out, hA, hB]; rfl)
            go_wp2_with fail
            go_ret
            exact ⟨by
              show Ending.returned (Value.string ⟨#[109, 101, 109, 98, 101, 114, 115]⟩) = Ending.returned (Value.string c.rword)
              unfold CF.rword
              simp [h1, hE], HX.out.bel⟩
          | true =>
            go_wp2_with fail
            go_roundw
            case rel => exact ⟨i + 1, HL.out, by go_num, fun j hj => by
              by_cases hji : j = i
              · rw [hji, HM.out, hA, hB]; rfl
              · exact HU.out j (by omega), HX.out⟩
            case measure => have := HL.out; simp [intOf]; omega
      · have hE2 : c.e2 = true := allB_true fun j hj => HU.out j (by omega)
        clear hi hi2
        have g1 : decide ((i : Int) < c.nm) = false := decide_eq_false (by omega)
        have g2 : decide (i < c.nm) = false := decide_eq_false hlt
        clear hlt
        obtain ⟨wa, rfl⟩ : ∃ x, x = wr := ⟨_, rfl⟩
        go_wp2_with fail
        refine (HI.out (c.ns : Int) 1 8 _).mono ?_
        rintro e wx ⟨rfl, rfl⟩
        cases h3 : c.d3 with
        | false =>
          rw [show wi 1 8 (c.ns : Int) = false from h3]
          go_wp2_with fail
          go_ret
          exact ⟨by
            show Ending.returned (Value.string ⟨#[115, 101, 99, 115]⟩) = Ending.returned (Value.string c.rword)
            unfold CF.rword
            simp [h1, hE2, h3], HX.out.bel⟩
        | true =>
          rw [show wi 1 8 (c.ns : Int) = true from h3]
          go_wp2_with fail
          go_loopw [4] (fun iv wr => ∃ i : Nat, i ≤ c.ns ∧ iv = .int .i64 i ∧ (∀ j, j < i → sMay (c.s1 j) (c.s2 j) = true) ∧ Hid (Bo c w wr)) (fun iv _ => c.ns - (intOf iv).toNat)
          case atStart => exact ⟨0, Nat.zero_le _, rfl, fun j hj => by omega, HX.out⟩
          case round =>
            clear HX
            obtain ⟨i, hi, rfl, hup, HX⟩ := hrel
            have HU := Lib.hid hup
            clear hup
            have hi2 : (i : Int) ≤ c.ns := by omega
            obtain ⟨x0, x1, x2, x3, x4, x5, x6, x7⟩ := eight_read HX.out.z
            by_cases hlt : i < c.ns
            · have hlt2 : (i : Int) < c.ns := by omega
              have hlt0 : (0 : Int) ≤ (i : Int) := by omega
              obtain ⟨g, off, e1, _, hc⟩ := HX.out.cfg.u (by omega)
              rw [e1] at x1
              obtain ⟨a0, a1⟩ := hc i hlt
              have HL := Lib.hid hlt
              clear hc hlt hi e1
              obtain ⟨v0, hv0⟩ : ∃ v, c.s1 i = v := ⟨_, rfl⟩
              obtain ⟨v1, hv1⟩ : ∃ v, c.s2 i = v := ⟨_, rfl⟩
              have HM : Hid (sMay (c.s1 i) (c.s2 i) = (wi 1 1048576 v0 && wi v0 1048576 v1)) := by show sMay _ _ = _; rw [hv0, hv1]; rfl
              rw [hv0] at a0
              rw [hv1] at a1
              clear hv0 hv1
              have HIA : Hid (∀ q, Calls Try.prog 63 #[.int .i64 v0, .int .i64 1, .int .i64 1048576] (wr.drewN q) (fun e w' => e = .returned (.bool (wi 1 1048576 v0)) ∧ w' = wr.drewN q)) := fun q => (in_any v0 1 1048576 _).mono fun _ _ ⟨x, y⟩ => ⟨x, y.symm⟩
              have HIB : Hid (∀ q, Calls Try.prog 63 #[.int .i64 v1, .int .i64 v0, .int .i64 1048576] (wr.drewN q) (fun e w' => e = .returned (.bool (wi v0 1048576 v1)) ∧ w' = wr.drewN q)) := fun q => (in_any v1 v0 1048576 _).mono fun _ _ ⟨x, y⟩ => ⟨x, y.symm⟩
              cases hA : wi 1 1048576 v0 with
              | false =>
                have hE : c.e4 = false := allB_false HL.out (by rw [HM.out, hA]; rfl)
                rw [hA] at HIA
                go_wp2_with fail
                go_quiet ((go_at_call 63; exact Calls.quiet_of_same (HIA.out _)))
                have HX := Lib.hid (HX.out.drewN nq)
                go_wp2_with fail
                go_ret
                exact ⟨by
                  show Ending.returned (Value.string ⟨#[115, 101, 99, 115]⟩) = Ending.returned (Value.string c.rword)
                  unfold CF.rword
                  simp [h1, hE2, h3, hE], HX.out.bel⟩
              | true =>
                rw [hA] at HIA
                cases hB : wi v0 1048576 v1 with
                | false =>
                  have hE : c.e4 = false := allB_false HL.out (by rw [HM.out, hA, hB]; rfl)
                  rw [hB] at HIB
                  go_wp2_with fail
                  go_quiet ((go_at_call 63; first | (with_reducible exact Calls.quiet_of_same (HIA.out _)) | (with_reducible exact Calls.quiet_of_same (HIB.out _))))
                  have HX := Lib.hid (HX.out.drewN nq)
                  go_wp2_with fail
                  go_ret
                  exact ⟨by
                    show Ending.returned (Value.string ⟨#[115, 101, 99, 115]⟩) = Ending.returned (Value.string c.rword)
                    unfold CF.rword
                    simp [h1, hE2, h3, hE], HX.out.bel⟩
                | true =>
                  rw [hB] at HIB
                  go_wp2_with fail
                  go_quiet ((go_at_call 63; first | (with_reducible exact Calls.quiet_of_same (HIA.out _)) | (with_reducible exact Calls.quiet_of_same (HIB.out _))))
                  go_wp2_with fail
                  go_roundw
                  case rel => exact ⟨i + 1, HL.out, by go_num, fun j hj => by
                    by_cases hji : j = i
                    · rw [hji, HM.out, hA, hB]; rfl
                    · exact HU.out j (by omega), HX.out.drewN _⟩
                  case measure => have := HL.out; simp [intOf]; omega
            · have hE4 : c.e4 = true := allB_true fun j hj => HU.out j (by omega)
              clear hi hi2
              have g1 : decide ((i : Int) < c.ns) = false := decide_eq_false (by omega)
              have g2 : decide (i < c.ns) = false := decide_eq_false hlt
              clear hlt
              obtain ⟨wb, rfl⟩ : ∃ x, x = wr := ⟨_, rfl⟩
              go_wp2_with fail
              refine (HI.out (c.nc : Int) 1 4 _).mono ?_
              rintro e wx ⟨rfl, rfl⟩
              cases h5 : c.d5 with
              | false =>
                rw [show wi 1 4 (c.nc : Int) = false from h5]
                go_wp2_with fail
                go_ret
                exact ⟨by
                  show Ending.returned (Value.string ⟨#[99, 121, 99, 108, 101, 115]⟩) = Ending.returned (Value.string c.rword)
                  unfold CF.rword
                  simp [h1, hE2, h3, hE4, h5], HX.out.bel⟩
              | true =>
                rw [show wi 1 4 (c.nc : Int) = true from h5]
                go_wp2_with fail
                go_loopw [5, 6] (fun av iv wr => ∃ i : Nat, i ≤ c.nc ∧ iv = .int .i64 i ∧ av = .int .i64 (clo c.s i) ∧ (∀ j, j < i → cyB c.p c.q c.r c.s j = true) ∧ Hid (Bo c w wr)) (fun _ iv _ => c.nc - (intOf iv).toNat)
                case atStart => exact ⟨0, Nat.zero_le _, rfl, rfl, fun j hj => by omega, HX.out⟩
                case round =>
                  clear HX
                  obtain ⟨i, hi, rfl, rfl, hup, HX⟩ := hrel
                  have HU := Lib.hid hup
                  clear hup
                  have hi2 : (i : Int) ≤ c.nc := by omega
                  obtain ⟨x0, x1, x2, x3, x4, x5, x6, x7⟩ := eight_read HX.out.z
                  by_cases hlt : i < c.nc
                  · have hlt2 : (i : Int) < c.nc := by omega
                    have hlt0 : (0 : Int) ≤ (i : Int) := by omega
                    obtain ⟨g, off, e1, _, hc⟩ := HX.out.cfg.y (by omega)
                    rw [e1] at x2
                    obtain ⟨a0, a1, a2, a3⟩ := hc i hlt
                    have HL := Lib.hid hlt
                    clear hc hlt hi e1
                    obtain ⟨u, hu⟩ : ∃ v, clo c.s i = v := ⟨_, rfl⟩
                    obtain ⟨v0, hv0⟩ : ∃ v, c.p i = v := ⟨_, rfl⟩
                    obtain ⟨v1, hv1⟩ : ∃ v, c.q i = v := ⟨_, rfl⟩
                    obtain ⟨v2, hv2⟩ : ∃ v, c.r i = v := ⟨_, rfl⟩
                    obtain ⟨v3, hv3⟩ : ∃ v, c.s i = v := ⟨_, rfl⟩
                    have HM : Hid (cyB c.p c.q c.r c.s i = (decide (u < v0) && (decide (v0 < v1) && (decide (v1 < v2) && (decide (v2 < v3) && decide (v3 ≤ 1000)))))) := by show cyB _ _ _ _ _ = _; unfold cyB; rw [hu, hv0, hv1, hv2, hv3]
                    have HC3 : Hid (clo c.s (i + 1) = v3) := by show clo _ _ = _; unfold clo; rw [if_neg (by omega), Nat.add_sub_cancel, hv3]
                    rw [hv0] at a0
                    rw [hv1] at a1
                    rw [hv2] at a2
                    rw [hv3] at a3
                    rw [hu]
                    clear hv0 hv1 hv2 hv3 hu
                    have HX := Lib.hid (HX.out.alloc (.cells #[.int .i64 v0, .int .i64 v1, .int .i64 v2, .int .i64 v3] 74))
                    rcases (show v0 ≤ u ∨ u < v0 by omega) with t1 | t1
                    · have f1 : decide (v0 ≤ u) = true := decide_eq_true t1
                      have hE : c.e6 = false := allB_false HL.out (by rw [HM.out]; simp; omega)
                      go_wp2_with fail
                      go_ret
                      exact ⟨by
                        show Ending.returned (Value.string ⟨#[99, 121, 99, 108, 101, 115]⟩) = Ending.returned (Value.string c.rword)
                        unfold CF.rword
                        simp [h1, hE2, h3, hE4, h5, hE], HX.out.bel⟩
                    have f1 : decide (v0 ≤ u) = false := decide_eq_false (by omega)
                    rcases (show v1 ≤ v0 ∨ v0 < v1 by omega) with t2 | t2
                    · have f2 : decide (v1 ≤ v0) = true := decide_eq_true t2
                      have hE : c.e6 = false := allB_false HL.out (by rw [HM.out]; simp; omega)
                      go_wp2_with fail
                      go_ret
                      exact ⟨by
                        show Ending.returned (Value.string ⟨#[99, 121, 99, 108, 101, 115]⟩) = Ending.returned (Value.string c.rword)
                        unfold CF.rword
                        simp [h1, hE2, h3, hE4, h5, hE], HX.out.bel⟩
                    have f2 : decide (v1 ≤ v0) = false := decide_eq_false (by omega)
                    rcases (show v2 ≤ v1 ∨ v1 < v2 by omega) with t3 | t3
                    · have f3 : decide (v2 ≤ v1) = true := decide_eq_true t3
                      have hE : c.e6 = false := allB_false HL.out (by rw [HM.out]; simp; omega)
                      go_wp2_with fail
                      go_ret
                      exact ⟨by
                        show Ending.returned (Value.string ⟨#[99, 121, 99, 108, 101, 115]⟩) = Ending.returned (Value.string c.rword)
                        unfold CF.rword
                        simp [h1, hE2, h3, hE4, h5, hE], HX.out.bel⟩
                    have f3 : decide (v2 ≤ v1) = false := decide_eq_false (by omega)
                    rcases (show v3 ≤ v2 ∨ v2 < v3 by omega) with t4 | t4
                    · have f4 : decide (v3 ≤ v2) = true := decide_eq_true t4
                      have hE : c.e6 = false := allB_false HL.out (by rw [HM.out]; simp; omega)
                      go_wp2_with fail
                      go_ret
                      exact ⟨by
                        show Ending.returned (Value.string ⟨#[99, 121, 99, 108, 101, 115]⟩) = Ending.returned (Value.string c.rword)
                        unfold CF.rword
                        simp [h1, hE2, h3, hE4, h5, hE], HX.out.bel⟩
                    have f4 : decide (v3 ≤ v2) = false := decide_eq_false (by omega)
                    rcases (show 1000 < v3 ∨ v3 ≤ 1000 by omega) with t5 | t5
                    · have f5 : decide (1000 < v3) = true := decide_eq_true t5
                      have hE : c.e6 = false := allB_false HL.out (by rw [HM.out]; simp; omega)
                      go_wp2_with fail
                      go_ret
                      exact ⟨by
                        show Ending.returned (Value.string ⟨#[99, 121, 99, 108, 101, 115]⟩) = Ending.returned (Value.string c.rword)
                        unfold CF.rword
                        simp [h1, hE2, h3, hE4, h5, hE], HX.out.bel⟩
                    have f5 : decide (1000 < v3) = false := decide_eq_false (by omega)
                    have HT : Hid (cyB c.p c.q c.r c.s i = true) := by show _ = _; rw [HM.out]; simp; omega
                    clear t1 t2 t3 t4 t5
                    go_wp2_with fail
                    go_roundw
                    case rel => exact ⟨i + 1, HL.out, by go_num, by rw [HC3.out], fun j hj => by
                      by_cases hji : j = i
                      · rw [hji]; exact HT.out
                      · exact HU.out j (by omega), HX.out⟩
                    case measure => have := HL.out; simp [intOf]; omega
                  · have hE6 : c.e6 = true := allB_true fun j hj => HU.out j (by omega)
                    clear hi hi2
                    have g1 : decide ((i : Int) < c.nc) = false := decide_eq_false (by omega)
                    have g2 : decide (i < c.nc) = false := decide_eq_false hlt
                    clear hlt
                    obtain ⟨wc, rfl⟩ : ∃ x, x = wr := ⟨_, rfl⟩
                    go_wp2_with fail
                    refine (HI.out c.li 0 1099511627776 _).mono ?_
                    rintro e wx ⟨rfl, rfl⟩
                    cases h7 : c.b4 with
                    | false =>
                      rw [show wi 0 1099511627776 c.li = false from h7]
                      go_wp2_with fail
                      go_ret
                      exact ⟨by
                        show Ending.returned (Value.string ⟨#[108, 105, 110, 101]⟩) = Ending.returned (Value.string c.rword)
                        unfold CF.rword
                        simp [h1, hE2, h3, hE4, h5, hE6, h7], HX.out.bel⟩
                    | true =>
                      rw [show wi 0 1099511627776 c.li = true from h7]
                      go_wp2_with fail
                      refine (HI.out c.ca 0 1099511627776 _).mono ?_
                      rintro e wx ⟨rfl, rfl⟩
                      cases h8 : c.b5 with
                      | false =>
                        rw [show wi 0 1099511627776 c.ca = false from h8]
                        go_wp2_with fail
                        go_ret
                        exact ⟨by
                          show Ending.returned (Value.string ⟨#[99, 97, 112, 105, 116, 97, 108]⟩) = Ending.returned (Value.string c.rword)
                          unfold CF.rword
                          simp [h1, hE2, h3, hE4, h5, hE6, h7, h8], HX.out.bel⟩
                      | true =>
                        rw [show wi 0 1099511627776 c.ca = true from h8]
                        go_wp2_with fail
                        refine (HI.out c.le 0 1000 _).mono ?_
                        rintro e wx ⟨rfl, rfl⟩
                        cases h9 : c.b6 with
                        | false =>
                          rw [show wi 0 1000 c.le = false from h9]
                          go_wp2_with fail
                          go_ret
                          exact ⟨by
                            show Ending.returned (Value.string ⟨#[108, 101, 97, 100]⟩) = Ending.returned (Value.string c.rword)
                            unfold CF.rword
                            simp [h1, hE2, h3, hE4, h5, hE6, h7, h8, h9], HX.out.bel⟩
                        | true =>
                          rw [show wi 0 1000 c.le = true from h9]
                          go_wp2_with fail
                          refine (HI.out c.tr 1 64 _).mono ?_
                          rintro e wx ⟨rfl, rfl⟩
                          cases h10 : c.b7 with
                          | false =>
                            rw [show wi 1 64 c.tr = false from h10]
                            go_wp2_with fail
                            go_ret
                            exact ⟨by
                              show Ending.returned (Value.string ⟨#[116, 114, 97, 100, 101, 115]⟩) = Ending.returned (Value.string c.rword)
                              unfold CF.rword
                              simp [h1, hE2, h3, hE4, h5, hE6, h7, h8, h9, h10], HX.out.bel⟩
                          | true =>
                            rw [show wi 1 64 c.tr = true from h10]
                            go_wp2_with fail
                            refine (HI.out c.bi 1 32 _).mono ?_
                            rintro e wx ⟨rfl, rfl⟩
                            cases h11 : c.b8 with
                            | false =>
                              rw [show wi 1 32 c.bi = false from h11]
                              go_wp2_with fail
                              go_ret
                              exact ⟨by
                                show Ending.returned (Value.string ⟨#[98, 105, 100, 115]⟩) = Ending.returned (Value.string c.rword)
                                unfold CF.rword
                                simp [h1, hE2, h3, hE4, h5, hE6, h7, h8, h9, h10, h11], HX.out.bel⟩
                            | true =>
                              rw [show wi 1 32 c.bi = true from h11]
                              go_wp2_with fail
                              go_ret
                              exact ⟨by
                                show Ending.returned (Value.string ⟨#[]⟩) = Ending.returned (Value.string c.rword)
                                unfold CF.rword
                                simp [h1, hE2, h3, hE4, h5, hE6, h7, h8, h9, h10, h11], HX.out.bel⟩
end Go.Proofs.Ythmbpoldjddheaa
