/- conf.Copy, walked (made by gen_cfh.py). -/
import Derived.Test.YthmbpoldjddheaaCfClone
namespace Go.Proofs.Ythmbpoldjddheaa
open Go.ChangeShapes Go.WideShapes Go.ChangeAt Go.RowKit
theorem row_kept10 {w w' : World} {B T size n g : Nat} {v : Value} {xs : List Value} (h : w.ownsRow B T size v n xs) (hg : w.grownBy w' (some g)) (hlt : g < B) : w'.ownsRow B T size v n xs := World.ownsRow.kept h hg (Or.inr (fun e => by have := (World.ownsRow.lt h g e).1; omega))
theorem row_bel {w w' : World} {B T size n : Nat} {v : Value} {xs : List Value} (h : w.ownsRow B T size v n xs) (hb : Below w.heap.size w w') : w'.ownsRow B T size v n xs := World.ownsRow.kept h (⟨hb.os, hb.tape, hb.output, hb.size, fun k hk _ => hb.block k hk⟩ : w.grownBy w' none) (by cases hv : v.ownBlock with | none => exact Or.inl rfl | some g => exact Or.inr (by simp))
theorem row_low {w : World} {B B' T size n : Nat} {v : Value} {xs : List Value} (h : w.ownsRow B T size v n xs) (hb : B' ≤ B) : w.ownsRow B' T size v n xs := by
  refine ⟨h.1, ?_⟩
  rcases h.2 with h2 | ⟨g, cap, cur, e, h3, h4⟩
  · exact Or.inl h2
  · exact Or.inr ⟨g, cap, cur, e, by omega, h4⟩
set_option maxHeartbeats 8000000 in
set_option maxRecDepth 100000 in
theorem copy10_any (c : CF) (w : World) (h : c.At w) :
    Calls Try.prog 44 #[.agg #[.slice c.am c.nm c.cm, .slice c.au c.ns c.cs, .slice c.ac c.nc c.cc, .int .i64 c.li, .int .i64 c.ca, .int .i64 c.le, .int .i64 c.tr, .int .i64 c.bi]] w (fun e w' => Below w.heap.size w w' ∧ ∃ am au ac cm cs cc, e = .returned (.agg #[.slice am c.nm cm, .slice au c.ns cs, .slice ac c.nc cc, .int .i64 c.li, .int .i64 c.ca, .int .i64 c.le, .int .i64 c.tr, .int .i64 c.bi]) ∧
      w'.ownsRow w.heap.size 77 2 (.slice am c.nm cm) c.nm (twL c.m1 c.m2 c.nm) ∧ w'.ownsRow w.heap.size 81 2 (.slice au c.ns cs) c.ns (twL c.s1 c.s2 c.ns) ∧ w'.ownsRow w.heap.size 74 4 (.slice ac c.nc cc) c.nc (frL c.p c.q c.r c.s c.nc)) := by
  have H1 := Lib.hid (fun W hW => cloneM c.am c.nm c.cm c.m1 c.m2 h.few.1 W hW)
  have H2 := Lib.hid (fun W hW => cloneS c.au c.ns c.cs c.s1 c.s2 h.few.2.1 W hW)
  have H3 := Lib.hid (fun W hW => cloneY c.ac c.nc c.cc c.p c.q c.r c.s h.few.2.2 W hW)
  have HAT := Lib.hid h
  have hb0 : Below w.heap.size w ((w.alloc (.cells #[.slice c.am c.nm c.cm, .slice c.au c.ns c.cs, .slice c.ac c.nc c.cc, .int .i64 c.li, .int .i64 c.ca, .int .i64 c.le, .int .i64 c.tr, .int .i64 c.bi] 67)).alloc (.cells #[.slice none 0 0, .slice none 0 0, .slice none 0 0, .int .i64 0, .int .i64 0, .int .i64 0, .int .i64 0, .int .i64 0] 67)) := ((Below.refl _ _).alloc (Nat.le_refl _) _).alloc (by simp) _
  have HA0 := Lib.hid (h.below hb0)
  have HB0 := Lib.hid hb0
  have HX0 : Hid (((w.alloc (.cells #[.slice c.am c.nm c.cm, .slice c.au c.ns c.cs, .slice c.ac c.nc c.cc, .int .i64 c.li, .int .i64 c.ca, .int .i64 c.le, .int .i64 c.tr, .int .i64 c.bi] 67)).alloc (.cells #[.slice none 0 0, .slice none 0 0, .slice none 0 0, .int .i64 0, .int .i64 0, .int .i64 0, .int .i64 0, .int .i64 0] 67)).heap[w.heap.size]? = some (.cells #[.slice c.am c.nm c.cm, .slice c.au c.ns c.cs, .slice c.ac c.nc c.cc, .int .i64 c.li, .int .i64 c.ca, .int .i64 c.le, .int .i64 c.tr, .int .i64 c.bi] 67 (0, 0))) := keepA (heap_alloc_new _ _) _
  have HZ0 : Hid (((w.alloc (.cells #[.slice c.am c.nm c.cm, .slice c.au c.ns c.cs, .slice c.ac c.nc c.cc, .int .i64 c.li, .int .i64 c.ca, .int .i64 c.le, .int .i64 c.tr, .int .i64 c.bi] 67)).alloc (.cells #[.slice none 0 0, .slice none 0 0, .slice none 0 0, .int .i64 0, .int .i64 0, .int .i64 0, .int .i64 0, .int .i64 0] 67)).heap[w.heap.size + 1]? = some (.cells #[.slice none 0 0, .slice none 0 0, .slice none 0 0, .int .i64 0, .int .i64 0, .int .i64 0, .int .i64 0, .int .i64 0] 67 (0, 0))) := heap_second _ _ _ _
  clear h hb0
  go_enter Try.func44, Try.ntmps44
  go_wp2_with fail
  generalize (w.alloc (.cells #[.slice c.am c.nm c.cm, .slice c.au c.ns c.cs, .slice c.ac c.nc c.cc, .int .i64 c.li, .int .i64 c.ca, .int .i64 c.le, .int .i64 c.tr, .int .i64 c.bi] 67)).alloc (.cells #[.slice none 0 0, .slice none 0 0, .slice none 0 0, .int .i64 0, .int .i64 0, .int .i64 0, .int .i64 0, .int .i64 0] 67) = w0 at *
  refine (H1.out _ HA0.out.m).mono ?_
  rintro e w1 ⟨h1, am, cm, rfl, r1⟩
  have HX1 := Lib.hid (keepB HX0.out h1)
  have HZ1 := Lib.hid (keepB HZ0.out h1)
  have HB1 := Lib.hid (HB0.out.trans (h1.mono HB0.out.size))
  have HR1 := Lib.hid (row_low r1 HB0.out.size)
  have HL1 : Hid (w.heap.size < w0.heap.size ∧ w.heap.size + 1 < w0.heap.size) := ⟨lt_of_block HX0.out, lt_of_block HZ0.out⟩
  have HR1' := Lib.hid r1
  obtain ⟨x0, x1, x2, x3, x4, x5, x6, x7⟩ := eight_read HX1.out
  have f0 := eight_free HX1.out 0
  have hs1 := set_heap (i := 0) (v := .slice am c.nm cm) (cs' := #[.slice am c.nm cm, .slice c.au c.ns c.cs, .slice c.ac c.nc c.cc, .int .i64 c.li, .int .i64 c.ca, .int .i64 c.le, .int .i64 c.tr, .int .i64 c.bi]) HX1.out rfl
  have HS1 := Lib.hid hs1
  have hg1 := set_gr w1 ⟨w.heap.size, 0, none⟩ (.slice am c.nm cm)
  have HZS1 := Lib.hid ((hg1.block (w.heap.size + 1) (lt_of_block HZ1.out) (by simp)).trans HZ1.out)
  have HBS1 := Lib.hid (HB1.out.setCell (p := ⟨w.heap.size, 0, none⟩) (Nat.le_refl _) (.slice am c.nm cm))
  have HRS1 := Lib.hid (row_kept10 HR1'.out hg1 HL1.out.1)
  have HA1 := Lib.hid (HAT.out.below HBS1.out)
  have k1 : (w1.setCell ⟨w.heap.size, 0, none⟩ (.slice am c.nm cm)).cell? ⟨w.heap.size, 1, none⟩ = some (.slice c.au c.ns c.cs) := (eight_read hs1).2.1
  clear h1 r1 hs1 hg1 H1 HA0 HX0 HZ0 HB0
  go_wp2_with fail
  generalize w1.setCell ⟨w.heap.size, 0, none⟩ (.slice am c.nm cm) = u1 at *
  clear x0 x1 x2 x3 x4 x5 x6 x7 f0 k1
  have HU1 : Hid (w.heap.size < u1.heap.size ∧ w.heap.size + 1 < u1.heap.size) := ⟨lt_of_block HS1.out, lt_of_block HZS1.out⟩
  refine (H2.out _ HA1.out.u).mono ?_
  rintro e w2 ⟨h2, au, cs, rfl, r2⟩
  have HX2 := Lib.hid (keepB HS1.out h2)
  have HZ2 := Lib.hid (keepB HZS1.out h2)
  have HB2 := Lib.hid (HBS1.out.trans (h2.mono HBS1.out.size))
  have HM2 := Lib.hid (row_bel HRS1.out h2)
  have HR2 := Lib.hid r2
  obtain ⟨x0, x1, x2, x3, x4, x5, x6, x7⟩ := eight_read HX2.out
  have f1 := eight_free HX2.out 1
  have hs2 := set_heap (i := 1) (v := .slice au c.ns cs) (cs' := #[.slice am c.nm cm, .slice au c.ns cs, .slice c.ac c.nc c.cc, .int .i64 c.li, .int .i64 c.ca, .int .i64 c.le, .int .i64 c.tr, .int .i64 c.bi]) HX2.out rfl
  have HS2 := Lib.hid hs2
  have hg2 := set_gr w2 ⟨w.heap.size, 1, none⟩ (.slice au c.ns cs)
  have HZS2 := Lib.hid ((hg2.block (w.heap.size + 1) (lt_of_block HZ2.out) (by simp)).trans HZ2.out)
  have HBS2 := Lib.hid (HB2.out.setCell (p := ⟨w.heap.size, 1, none⟩) (Nat.le_refl _) (.slice au c.ns cs))
  have HMS2 := Lib.hid (row_kept10 HM2.out hg2 HL1.out.1)
  have HRS2 := Lib.hid (row_kept10 HR2.out hg2 HU1.out.1)
  have HA2 := Lib.hid (HAT.out.below HBS2.out)
  have k2 : (w2.setCell ⟨w.heap.size, 1, none⟩ (.slice au c.ns cs)).cell? ⟨w.heap.size, 2, none⟩ = some (.slice c.ac c.nc c.cc) := (eight_read hs2).2.2.1
  clear h2 r2 hs2 hg2 H2 HA1 HS1 HZS1 HBS1 HRS1 HX1 HZ1 HB1 HR1 HR1'
  go_wp2_with fail
  generalize w2.setCell ⟨w.heap.size, 1, none⟩ (.slice au c.ns cs) = u2 at *
  clear x0 x1 x2 x3 x4 x5 x6 x7 f1 k2
  have HU2 : Hid (w.heap.size < u2.heap.size ∧ w.heap.size + 1 < u2.heap.size) := ⟨lt_of_block HS2.out, lt_of_block HZS2.out⟩
  refine (H3.out _ HA2.out.y).mono ?_
  rintro e w3 ⟨h3, ac, cc, rfl, r3⟩
  have HX3 := Lib.hid (keepB HS2.out h3)
  have HZ3 := Lib.hid (keepB HZS2.out h3)
  have HB3 := Lib.hid (HBS2.out.trans (h3.mono HBS2.out.size))
  have HM3 := Lib.hid (row_bel HMS2.out h3)
  have HR3 := Lib.hid (row_bel HRS2.out h3)
  have HY3 := Lib.hid r3
  obtain ⟨x0, x1, x2, x3, x4, x5, x6, x7⟩ := eight_read HX3.out
  have f2 := eight_free HX3.out 2
  have hs3 := set_heap (i := 2) (v := .slice ac c.nc cc) (cs' := #[.slice am c.nm cm, .slice au c.ns cs, .slice ac c.nc cc, .int .i64 c.li, .int .i64 c.ca, .int .i64 c.le, .int .i64 c.tr, .int .i64 c.bi]) HX3.out rfl
  have hg3 := set_gr w3 ⟨w.heap.size, 2, none⟩ (.slice ac c.nc cc)
  have hz3 := (hg3.block (w.heap.size + 1) (lt_of_block HZ3.out) (by simp)).trans HZ3.out
  have HBS3 := Lib.hid (HB3.out.setCell (p := ⟨w.heap.size, 2, none⟩) (Nat.le_refl _) (.slice ac c.nc cc))
  have HMS3 := Lib.hid (row_kept10 HM3.out hg3 HL1.out.1)
  have HRS3 := Lib.hid (row_kept10 HR3.out hg3 HU1.out.1)
  have HYS3 := Lib.hid (row_kept10 HY3.out hg3 HU2.out.1)
  obtain ⟨a0, a1, a2, a3, a4, a5, a6, a7⟩ := eight_read hs3
  obtain ⟨z0, z1, z2, z3, z4, z5, z6, z7⟩ := eight_read hz3
  have y0 := eight_free hz3 0
  have y1 := eight_free hz3 1
  have y2 := eight_free hz3 2
  have y3 := eight_free hz3 3
  have y4 := eight_free hz3 4
  have y5 := eight_free hz3 5
  have y6 := eight_free hz3 6
  have y7 := eight_free hz3 7
  obtain ⟨b0, b1, b2, b3, b4, b5, b6, b7⟩ := eight_read (eight_set hz3 (.slice am c.nm cm) (.slice au c.ns cs) (.slice ac c.nc cc) (.int .i64 c.li) (.int .i64 c.ca) (.int .i64 c.le) (.int .i64 c.tr) (.int .i64 c.bi))
  have hg := eight_grown (w3.setCell ⟨w.heap.size, 2, none⟩ (.slice ac c.nc cc)) (w.heap.size + 1) (.slice am c.nm cm) (.slice au c.ns cs) (.slice ac c.nc cc) (.int .i64 c.li) (.int .i64 c.ca) (.int .i64 c.le) (.int .i64 c.tr) (.int .i64 c.bi)
  have HF1 := Lib.hid (row_low (row_kept10 HMS3.out hg HL1.out.2) (Nat.le_of_lt HL1.out.1))
  have HF2 := Lib.hid (row_low (row_kept10 HRS3.out hg HU1.out.2) (Nat.le_of_lt HU1.out.1))
  have HF3 := Lib.hid (row_low (row_kept10 HYS3.out hg HU2.out.2) (Nat.le_of_lt HU2.out.1))
  have HFB := Lib.hid (grown_bel HBS3.out (Nat.le_add_right _ _) HBS3.out.size hg)
  clear h3 r3 hs3 hg3 hz3 hg H3 HA2 HX2 HX3 HZ2 HZ3 HS2 HZS2 HM2 HM3
  go_wp2_with fail
  (try simp only [Exit.inBlock, Exit.then])
  refine bodyPost_ret (v := .agg #[.slice am c.nm cm, .slice au c.ns cs, .slice ac c.nc cc, .int .i64 c.li, .int .i64 c.ca, .int .i64 c.le, .int .i64 c.tr, .int .i64 c.bi]) (by simp [results, Try.results44, go_sem, b0, b1, b2, b3, b4, b5, b6, b7]) rfl ?_
  exact ⟨HFB.out, _, _, _, _, _, _, rfl, HF1.out, HF2.out, HF3.out⟩
end Go.Proofs.Ythmbpoldjddheaa
