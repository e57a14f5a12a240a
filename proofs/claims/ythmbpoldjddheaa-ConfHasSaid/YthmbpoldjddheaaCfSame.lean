/- The document's Same: of configs that are the same it tells so (made by gen_cf6.py). -/
import Derived.Test.YthmbpoldjddheaaCfGrow
namespace Go.Proofs.Ythmbpoldjddheaa
open Go.ChangeShapes Go.WideShapes Go.ChangeAt Go.RowKit
/-- Both configs lie in boxes. -/
structure Bx (c : CF) (am au ac : Option Addr) (cm cs cc : Nat) (w wr : World) : Prop where
  z1 : wr.heap[w.heap.size]? = some (.cells #[.slice c.am c.nm c.cm, .slice c.au c.ns c.cs, .slice c.ac c.nc c.cc, .int .i64 c.li, .int .i64 c.ca, .int .i64 c.le, .int .i64 c.tr, .int .i64 c.bi] 67 (0, 0))
  z2 : wr.heap[w.heap.size + 1]? = some (.cells #[.slice am c.nm cm, .slice au c.ns cs, .slice ac c.nc cc, .int .i64 c.li, .int .i64 c.ca, .int .i64 c.le, .int .i64 c.tr, .int .i64 c.bi] 67 (0, 0))
  at1 : c.At wr
  m : Two wr am c.nm c.m1 c.m2
  u : Two wr au c.ns c.s1 c.s2
  y : Four wr ac c.nc c.p c.q c.r c.s
  bel : Below w.heap.size w wr
theorem Bx.drewN {c : CF} {am au ac : Option Addr} {cm cs cc : Nat} {w wr : World} (h : Bx c am au ac cm cs cc w wr) (q : Nat) : Bx c am au ac cm cs cc w (wr.drewN q) := ⟨h.z1, h.z2, ⟨h.at1.m, h.at1.u, h.at1.y, h.at1.few⟩, h.m, h.u, h.y, below_drewN h.bel q⟩
set_option maxHeartbeats 8000000 in
set_option maxRecDepth 100000 in
theorem same10_any (c : CF) (am au ac : Option Addr) (cm cs cc : Nat) (w : World) (h : c.At w) (h2 : Two w am c.nm c.m1 c.m2) (h3 : Two w au c.ns c.s1 c.s2) (h4 : Four w ac c.nc c.p c.q c.r c.s) :
    Calls Try.prog 45 #[.agg #[.slice c.am c.nm c.cm, .slice c.au c.ns c.cs, .slice c.ac c.nc c.cc, .int .i64 c.li, .int .i64 c.ca, .int .i64 c.le, .int .i64 c.tr, .int .i64 c.bi], .agg #[.slice am c.nm cm, .slice au c.ns cs, .slice ac c.nc cc, .int .i64 c.li, .int .i64 c.ca, .int .i64 c.le, .int .i64 c.tr, .int .i64 c.bi]] w (Ret (.bool true) w) := by
  have hb : Below w.heap.size w ((w.alloc (.cells #[.slice c.am c.nm c.cm, .slice c.au c.ns c.cs, .slice c.ac c.nc c.cc, .int .i64 c.li, .int .i64 c.ca, .int .i64 c.le, .int .i64 c.tr, .int .i64 c.bi] 67)).alloc (.cells #[.slice am c.nm cm, .slice au c.ns cs, .slice ac c.nc cc, .int .i64 c.li, .int .i64 c.ca, .int .i64 c.le, .int .i64 c.tr, .int .i64 c.bi] 67)) := ((Below.refl _ _).alloc (Nat.le_refl _) _).alloc (by simp) _
  have HX0 : Hid (Bx c am au ac cm cs cc w ((w.alloc (.cells #[.slice c.am c.nm c.cm, .slice c.au c.ns c.cs, .slice c.ac c.nc c.cc, .int .i64 c.li, .int .i64 c.ca, .int .i64 c.le, .int .i64 c.tr, .int .i64 c.bi] 67)).alloc (.cells #[.slice am c.nm cm, .slice au c.ns cs, .slice ac c.nc cc, .int .i64 c.li, .int .i64 c.ca, .int .i64 c.le, .int .i64 c.tr, .int .i64 c.bi] 67))) :=
    ⟨keepA (heap_alloc_new _ _) _, by have h := heap_alloc_new (w.alloc (.cells #[.slice c.am c.nm c.cm, .slice c.au c.ns c.cs, .slice c.ac c.nc c.cc, .int .i64 c.li, .int .i64 c.ca, .int .i64 c.le, .int .i64 c.tr, .int .i64 c.bi] 67)) (.cells #[.slice am c.nm cm, .slice au c.ns cs, .slice ac c.nc cc, .int .i64 c.li, .int .i64 c.ca, .int .i64 c.le, .int .i64 c.tr, .int .i64 c.bi] 67); rwa [World.size_alloc] at h, h.below hb, h2.below hb, h3.below hb, h4.below hb, hb⟩
  have n1 : (c.nm : Int) ≤ 1000 := by have := h.few.1; omega
  have n2 : (c.ns : Int) ≤ 1000 := by have := h.few.2.1; omega
  have n3 : (c.nc : Int) ≤ 1000 := by have := h.few.2.2; omega
  clear hb h h2 h3 h4
  go_enter Try.func45, Try.ntmps45
  go_wp2_with fail
  generalize (w.alloc (.cells #[.slice c.am c.nm c.cm, .slice c.au c.ns c.cs, .slice c.ac c.nc c.cc, .int .i64 c.li, .int .i64 c.ca, .int .i64 c.le, .int .i64 c.tr, .int .i64 c.bi] 67)).alloc (.cells #[.slice am c.nm cm, .slice au c.ns cs, .slice ac c.nc cc, .int .i64 c.li, .int .i64 c.ca, .int .i64 c.le, .int .i64 c.tr, .int .i64 c.bi] 67) = w1 at *
  go_loopw [5] (fun iv wr => ∃ i : Nat, i ≤ c.nm ∧ iv = .int .i64 i ∧ Hid (Bx c am au ac cm cs cc w wr)) (fun iv _ => c.nm - (intOf iv).toNat)
  case atStart => exact ⟨0, Nat.zero_le _, rfl, HX0.out⟩
  case round =>
    clear HX0
    obtain ⟨i, hi, rfl, HX⟩ := hrel
    have hi2 : (i : Int) ≤ c.nm := by omega
    obtain ⟨x0, x1, x2, x3, x4, x5, x6, x7⟩ := eight_read HX.out.z1
    obtain ⟨y0, y1, y2, y3, y4, y5, y6, y7⟩ := eight_read HX.out.z2
    by_cases hlt : i < c.nm
    · have hlt2 : (i : Int) < c.nm := by omega
      have hlt0 : (0 : Int) ≤ (i : Int) := by omega
      obtain ⟨g1, o1, e1, _, hc1⟩ := HX.out.at1.m (by omega)
      obtain ⟨g2, o2, e2, _, hc2⟩ := HX.out.m (by omega)
      rw [e1] at x0
      rw [e2] at y0
      obtain ⟨a0, a1⟩ := hc1 i hlt
      obtain ⟨b0, b1⟩ := hc2 i hlt
      have HL := Lib.hid hlt
      clear hc1 hc2 hlt hi e1 e2
      obtain ⟨v0, hv0⟩ : ∃ v, c.m1 i = v := ⟨_, rfl⟩
      rw [hv0] at a0 b0
      clear hv0
      obtain ⟨v1, hv1⟩ : ∃ v, c.m2 i = v := ⟨_, rfl⟩
      rw [hv1] at a1 b1
      clear hv1
      go_wp2_with fail
      go_quiet (fail)
      go_wp2_with fail
      go_roundw
      case rel => exact ⟨i + 1, HL.out, by go_num, HX.out.drewN _⟩
      case measure => have := HL.out; simp [intOf]; omega
    · have hin : c.nm = i := by omega
      clear hlt
      obtain rfl : i = c.nm := hin.symm
      clear hi hi2
      obtain ⟨wo, rfl⟩ : ∃ x, x = wr := ⟨_, rfl⟩
      have HX0 := HX
      clear HX
      go_wp2_with fail
      clear x0 x1 x2 x3 x4 x5 x6 x7 y0 y1 y2 y3 y4 y5 y6 y7
      go_loopw [6] (fun iv wr => ∃ i : Nat, i ≤ c.ns ∧ iv = .int .i64 i ∧ Hid (Bx c am au ac cm cs cc w wr)) (fun iv _ => c.ns - (intOf iv).toNat)
      case atStart => exact ⟨0, Nat.zero_le _, rfl, HX0.out⟩
      case round =>
        clear HX0
        obtain ⟨i, hi, rfl, HX⟩ := hrel
        have hi2 : (i : Int) ≤ c.ns := by omega
        obtain ⟨x0, x1, x2, x3, x4, x5, x6, x7⟩ := eight_read HX.out.z1
        obtain ⟨y0, y1, y2, y3, y4, y5, y6, y7⟩ := eight_read HX.out.z2
        by_cases hlt : i < c.ns
        · have hlt2 : (i : Int) < c.ns := by omega
          have hlt0 : (0 : Int) ≤ (i : Int) := by omega
          obtain ⟨g1, o1, e1, _, hc1⟩ := HX.out.at1.u (by omega)
          obtain ⟨g2, o2, e2, _, hc2⟩ := HX.out.u (by omega)
          rw [e1] at x1
          rw [e2] at y1
          obtain ⟨a0, a1⟩ := hc1 i hlt
          obtain ⟨b0, b1⟩ := hc2 i hlt
          have HL := Lib.hid hlt
          clear hc1 hc2 hlt hi e1 e2
          obtain ⟨v0, hv0⟩ : ∃ v, c.s1 i = v := ⟨_, rfl⟩
          rw [hv0] at a0 b0
          clear hv0
          obtain ⟨v1, hv1⟩ : ∃ v, c.s2 i = v := ⟨_, rfl⟩
          rw [hv1] at a1 b1
          clear hv1
          go_wp2_with fail
          go_quiet (fail)
          go_wp2_with fail
          go_roundw
          case rel => exact ⟨i + 1, HL.out, by go_num, HX.out.drewN _⟩
          case measure => have := HL.out; simp [intOf]; omega
        · have hin : c.ns = i := by omega
          clear hlt
          obtain rfl : i = c.ns := hin.symm
          clear hi hi2
          obtain ⟨wo, rfl⟩ : ∃ x, x = wr := ⟨_, rfl⟩
          have HX0 := HX
          clear HX
          go_wp2_with fail
          clear x0 x1 x2 x3 x4 x5 x6 x7 y0 y1 y2 y3 y4 y5 y6 y7
          go_loopw [7] (fun iv wr => ∃ i : Nat, i ≤ c.nc ∧ iv = .int .i64 i ∧ Hid (Bx c am au ac cm cs cc w wr)) (fun iv _ => c.nc - (intOf iv).toNat)
          case atStart => exact ⟨0, Nat.zero_le _, rfl, HX0.out⟩
          case round =>
            clear HX0
            obtain ⟨i, hi, rfl, HX⟩ := hrel
            have hi2 : (i : Int) ≤ c.nc := by omega
            obtain ⟨x0, x1, x2, x3, x4, x5, x6, x7⟩ := eight_read HX.out.z1
            obtain ⟨y0, y1, y2, y3, y4, y5, y6, y7⟩ := eight_read HX.out.z2
            by_cases hlt : i < c.nc
            · have hlt2 : (i : Int) < c.nc := by omega
              have hlt0 : (0 : Int) ≤ (i : Int) := by omega
              obtain ⟨g1, o1, e1, _, hc1⟩ := HX.out.at1.y (by omega)
              obtain ⟨g2, o2, e2, _, hc2⟩ := HX.out.y (by omega)
              rw [e1] at x2
              rw [e2] at y2
              obtain ⟨a0, a1, a2, a3⟩ := hc1 i hlt
              obtain ⟨b0, b1, b2, b3⟩ := hc2 i hlt
              have HL := Lib.hid hlt
              clear hc1 hc2 hlt hi e1 e2
              obtain ⟨v0, hv0⟩ : ∃ v, c.p i = v := ⟨_, rfl⟩
              rw [hv0] at a0 b0
              clear hv0
              obtain ⟨v1, hv1⟩ : ∃ v, c.q i = v := ⟨_, rfl⟩
              rw [hv1] at a1 b1
              clear hv1
              obtain ⟨v2, hv2⟩ : ∃ v, c.r i = v := ⟨_, rfl⟩
              rw [hv2] at a2 b2
              clear hv2
              obtain ⟨v3, hv3⟩ : ∃ v, c.s i = v := ⟨_, rfl⟩
              rw [hv3] at a3 b3
              clear hv3
              go_wp2_with fail
              go_quiet (fail)
              go_wp2_with fail
              go_roundw
              case rel => exact ⟨i + 1, HL.out, by go_num, HX.out.drewN _⟩
              case measure => have := HL.out; simp [intOf]; omega
            · have hin : c.nc = i := by omega
              clear hlt
              obtain rfl : i = c.nc := hin.symm
              clear hi hi2
              go_wp2_with fail
              go_ret
              exact ⟨rfl, HX.out.bel⟩
end Go.Proofs.Ythmbpoldjddheaa
