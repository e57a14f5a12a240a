/- The document's Read. -/
import Derived.Test.YtbpaongnehgodaaCoRight
namespace Go.Proofs.Ytbpaongnehgodaa
open Go.ChangeShapes Go.WideShapes Go.ChangeAt Go.RowKit
/-- A command and what is left, behind the first letters. -/
def rdL : List UInt8 → Cm × (ByteArray × Int) → Cm × (ByteArray × Int)
  | [], x => x
  | a :: L, x => rdL L (withL x.1 a.toNat (rd x.2.1 x.2.2).1, (rd x.2.1 x.2.2).2)
theorem rdL_append (L M : List UInt8) : ∀ x, rdL (L ++ M) x = rdL M (rdL L x) := by
  induction L with
  | nil => intro x; rfl
  | cons a L ih => intro x; exact ih _
def rdJ (L : List UInt8) (x : Cm × (ByteArray × Int)) (j : Nat) : Cm × (ByteArray × Int) := rdL (L.take j) x
theorem rdJ_succ (L : List UInt8) (x : Cm × (ByteArray × Int)) (j : Nat) (h : j < L.length) : rdJ L x (j + 1) = (withL (rdJ L x j).1 (L[j]).toNat (rd (rdJ L x j).2.1 (rdJ L x j).2.2).1, (rd (rdJ L x j).2.1 (rdJ L x j).2.2).2) := by
  unfold rdJ
  rw [← List.take_append_getElem h, rdL_append]
  rfl
/-- The command, unless there is an error. -/
def keepC (x : Cm × (ByteArray × Int)) : Cm := if x.2.2 = 0 then x.1 else zeroC
/-- The document's reader, behind Read. -/
def RRd (g : Nat) (w : World) (c : Cm) (x : ByteArray × Int) (en : Ending) (w' : World) : Prop := en = .returned (cmv c) ∧ Gr g w w' ∧ RAt 60 w' g x.1 x.2 ∧ x.1.size ≤ 1000000
theorem rnum_any (g : Nat) (s : ByteArray) (e : Int) (hs : s.size ≤ 1000000) (w : World) (hR : RAt 60 w g s e) :
    Calls Try.prog 44 #[ptr g] w (Reads 60 g w (.int .i64 (rd s e).1) (rd s e).2.1 (rd s e).2.2) := refnum_any g s e hs w hR
theorem rd_size (s : ByteArray) (e : Int) : (rd s e).2.1.size ≤ s.size := readV_size _ s e
set_option maxHeartbeats 4000000 in
theorem rread_fail (g : Nat) (s : ByteArray) (e : Int) (hs : s.size ≤ 1000000) (w : World) (h : RAt 60 w g s e) (he : (rd s e).2.2 ≠ 0) :
    Calls Try.prog 34 #[ptr g] w (RRd g w zeroC (rd s e).2) := by
  have HN := Lib.hid (fun W (hW : RAt 60 W g s e) => rnum_any g s e hs W hW)
  have HS : Hid ((rd s e).2.1.size ≤ 1000000) := Nat.le_trans (rd_size s e) hs
  obtain ⟨y, hy⟩ : ∃ y, rd s e = y := ⟨_, rfl⟩
  rw [hy] at HN HS he ⊢
  obtain ⟨n, s1, e1⟩ := y
  simp only [] at HN HS he ⊢
  have d1 : (e1 == 0) = false := by simp [he]
  have d2 : (e1 != 0) = true := by simp [he]
  have HR : Hid (∀ a, RAt 60 (w.alloc a) g s e) := fun a => h.below (boxes1 w a).2
  have HG : Hid (∀ a, Gr g w (w.alloc a)) := fun a => gr_below (boxes1 w a).2
  have HBX := Lib.hid (boxes1 w (.cells #[.int .i64 0, .int .i64 0, .int .i64 0, .int .i64 0, .int .i64 0, .int .i64 0, .int .i64 0] 23))
  have HL : Hid (g < w.heap.size) := h.lt
  clear hy he h hs
  go_enter Try.func34, Try.ntmps34
  go_wp2_with fail
  refine (HN.out _ (HR.out _)).mono ?_
  rintro en w1 ⟨rfl, g1, r1⟩
  have hne : w.heap.size ≠ g := by have := HL.out; omega
  have x1 := gr_keep g1 HBX.out.1 hne
  have hR2 : RAt 60 (w1.alloc (.cells #[.int .i64 n, .int .i64 0, .int .i64 0, .int .i64 0, .int .i64 0, .int .i64 0, .int .i64 0] 23)) g s1 e1 := r1.below (boxes1 w1 _).2
  have r0 := hR2.c0
  have r1' := hR2.c1
  have rf0 := hR2.f 0
  have rf1 := hR2.f 1
  have x2 := alloc_keep (p := (.cells #[.int .i64 n, .int .i64 0, .int .i64 0, .int .i64 0, .int .i64 0, .int .i64 0, .int .i64 0] 23)) x1
  have G1 := Lib.hid (gr_trans (HG.out _) g1)
  have R2 := Lib.hid hR2
  obtain ⟨q0, q1, q2, q3, q4, q5, q6⟩ := seven_cells x2
  have F := seven_free x2
  have f0 := F 0
  have f1 := F 1
  have f2 := F 2
  have f3 := F 3
  have f4 := F 4
  have f5 := F 5
  have f6 := F 6
  clear F
  have X := Lib.hid (seven_set x2 (.int .i64 0) (.int .i64 0) (.int .i64 0) (.int .i64 0) (.int .i64 0) (.int .i64 0) (.int .i64 0))
  clear x1 x2 hR2 g1 r1
  go_wp2_with fail
  obtain ⟨z0, z1, z2, z3, z4, z5, z6⟩ := seven_cells X.out
  refine bodyPost_ret (v := .agg #[.int .i64 0, .int .i64 0, .int .i64 0, .int .i64 0, .int .i64 0, .int .i64 0, .int .i64 0]) (by simp [results, Try.results34, go_sem, z0, z1, z2, z3, z4, z5, z6]) rfl ?_
  exact ⟨rfl, gr_new (gr_new (gr_new (gr_new (gr_new (gr_new (gr_new (gr_alloc G1.out) (Nat.le_refl _)) (Nat.le_refl _)) (Nat.le_refl _)) (Nat.le_refl _)) (Nat.le_refl _)) (Nat.le_refl _)) (Nat.le_refl _), co_other (co_other (co_other (co_other (co_other (co_other (co_other (R2.out) hne.symm) hne.symm) hne.symm) hne.symm) hne.symm) hne.symm) hne.symm, HS.out⟩
set_option maxHeartbeats 4000000 in
theorem rread_none (g : Nat) (s : ByteArray) (e : Int) (hs : s.size ≤ 1000000) (w : World) (h : RAt 60 w g s e) (he : (rd s e).2.2 = 0) (hH : ∀ W, Calls Try.prog 26 #[.int .i64 (rd s e).1] W (Ret (txt [63]) W)) :
    Calls Try.prog 34 #[ptr g] w (RRd g w zeroC ((rd s e).2.1, 3)) := by
  have HN := Lib.hid (fun W (hW : RAt 60 W g s e) => rnum_any g s e hs W hW)
  have HS : Hid ((rd s e).2.1.size ≤ 1000000) := Nat.le_trans (rd_size s e) hs
  have HH := Lib.hid hH
  unfold txt at HH
  clear hH
  obtain ⟨y, hy⟩ : ∃ y, rd s e = y := ⟨_, rfl⟩
  rw [hy] at HN HS HH he ⊢
  obtain ⟨n, s1, e1⟩ := y
  simp only [] at HN HS HH he ⊢
  have he2 := he
  subst he2
  have HR : Hid (∀ a, RAt 60 (w.alloc a) g s e) := fun a => h.below (boxes1 w a).2
  have HG : Hid (∀ a, Gr g w (w.alloc a)) := fun a => gr_below (boxes1 w a).2
  have HBX := Lib.hid (boxes1 w (.cells #[.int .i64 0, .int .i64 0, .int .i64 0, .int .i64 0, .int .i64 0, .int .i64 0, .int .i64 0] 23))
  have HL : Hid (g < w.heap.size) := h.lt
  clear hy he h hs
  go_enter Try.func34, Try.ntmps34
  go_wp2_with fail
  refine (HN.out _ (HR.out _)).mono ?_
  rintro en w1 ⟨rfl, g1, r1⟩
  have hne : w.heap.size ≠ g := by have := HL.out; omega
  have x1 := gr_keep g1 HBX.out.1 hne
  have hR2 : RAt 60 (w1.alloc (.cells #[.int .i64 n, .int .i64 0, .int .i64 0, .int .i64 0, .int .i64 0, .int .i64 0, .int .i64 0] 23)) g s1 0 := r1.below (boxes1 w1 _).2
  have r0 := hR2.c0
  have r1' := hR2.c1
  have rf0 := hR2.f 0
  have rf1 := hR2.f 1
  have x2 := alloc_keep (p := (.cells #[.int .i64 n, .int .i64 0, .int .i64 0, .int .i64 0, .int .i64 0, .int .i64 0, .int .i64 0] 23)) x1
  have G1 := Lib.hid (gr_trans (HG.out _) g1)
  have R2 := Lib.hid hR2
  have C2 := Lib.hid (boxes1 w1 (.cells #[.int .i64 n, .int .i64 0, .int .i64 0, .int .i64 0, .int .i64 0, .int .i64 0, .int .i64 0] 23)).1
  have n0 := one_first C2.out
  have HX2 := Lib.hid x2
  have HLG : Hid (w.heap.size < (w1.alloc (.cells #[.int .i64 n, .int .i64 0, .int .i64 0, .int .i64 0, .int .i64 0, .int .i64 0, .int .i64 0] 23)).heap.size) := lt_of_block x2
  clear x1 x2 hR2 g1 r1
  go_wp2_with fail
  refine (HH.out _).mono ?_
  rintro en w3 ⟨rfl, h3⟩
  have r3 := R2.out.below h3
  have rr0 := r3.c0
  have rr1 := r3.c1
  have rrf := r3.f 1
  have x3 := (h3.block _ HLG.out).trans HX2.out
  have G3 := Lib.hid (gr_trans (gr_alloc G1.out) (gr_below (g := g) h3))
  have R3 := Lib.hid (r3.set1 3)
  have x4 : (w3.setCell ⟨g, 1, none⟩ (.int .i64 3)).heap[w.heap.size]? = _ := co_other x3 hne
  have G4 := Lib.hid (gr_set G3.out 1 (.int .i64 3))
  obtain ⟨q0, q1, q2, q3, q4, q5, q6⟩ := seven_cells x3
  have F := seven_free x3
  have f0 := F 0
  have f1 := F 1
  have f2 := F 2
  have f3 := F 3
  have f4 := F 4
  have f5 := F 5
  have f6 := F 6
  clear F
  obtain ⟨y0, y1, y2, y3, y4, y5, y6⟩ := seven_cells x4
  have F4 := seven_free x4
  have g0 := F4 0
  have g1 := F4 1
  have g2 := F4 2
  have g3 := F4 3
  have g4 := F4 4
  have g5 := F4 5
  have g6 := F4 6
  clear F4
  have X := Lib.hid (seven_set x4 (.int .i64 0) (.int .i64 0) (.int .i64 0) (.int .i64 0) (.int .i64 0) (.int .i64 0) (.int .i64 0))
  clear x3 x4 h3 r3
  go_wp2_with fail
  obtain ⟨z0, z1, z2, z3, z4, z5, z6⟩ := seven_cells X.out
  refine bodyPost_ret (v := .agg #[.int .i64 0, .int .i64 0, .int .i64 0, .int .i64 0, .int .i64 0, .int .i64 0, .int .i64 0]) (by simp [results, Try.results34, go_sem, z0, z1, z2, z3, z4, z5, z6]) rfl ?_
  exact ⟨rfl, gr_new (gr_new (gr_new (gr_new (gr_new (gr_new (gr_new (G4.out) (Nat.le_refl _)) (Nat.le_refl _)) (Nat.le_refl _)) (Nat.le_refl _)) (Nat.le_refl _)) (Nat.le_refl _)) (Nat.le_refl _), co_other (co_other (co_other (co_other (co_other (co_other (co_other (R3.out) hne.symm) hne.symm) hne.symm) hne.symm) hne.symm) hne.symm) hne.symm, HS.out⟩
set_option maxHeartbeats 4000000 in
theorem rread_full (g : Nat) (s : ByteArray) (e : Int) (hs : s.size ≤ 1000000) (w : World) (h : RAt 60 w g s e) (he : (rd s e).2.2 = 0) (L : List UInt8) (hL : L.length ≤ 10) (hq : L ≠ [63]) (hH : ∀ W, Calls Try.prog 26 #[.int .i64 (rd s e).1] W (Ret (txt L) W)) (E6 : Cm × (ByteArray × Int)) (hE6 : E6 = rdJ L (⟨(rd s e).1, 0, 0, 0, 0, 0, 0⟩, (rd s e).2) L.length) :
    Calls Try.prog 34 #[ptr g] w (RRd g w (keepC E6) E6.2) := by
  have HN := Lib.hid (fun W (hW : RAt 60 W g s e) => rnum_any g s e hs W hW)
  have HS : Hid ((rd s e).2.1.size ≤ 1000000) := Nat.le_trans (rd_size s e) hs
  have HH := Lib.hid hH
  have hsz : ByteArray.size ⟨L.toArray⟩ = L.length := rfl
  have hn : (L.length : Int) ≤ 10 := by omega
  have d0 : (L == [63]) = false := by rw [beq_eq_false_iff_ne]; exact hq
  have HW := Lib.hid rwith_any
  unfold txt at HH
  clear hH hL hq
  obtain ⟨y, hy⟩ : ∃ y, rd s e = y := ⟨_, rfl⟩
  rw [hy] at HN HS HH he hE6
  obtain ⟨n, s1, e1⟩ := y
  simp only [] at HN HS HH he hE6
  have he2 := he
  subst he2
  have HSU := Lib.hid (rdJ_succ L (⟨n, 0, 0, 0, 0, 0, 0⟩, (s1, 0)))
  have HJ0 : Hid (rdJ L (⟨n, 0, 0, 0, 0, 0, 0⟩, (s1, 0)) 0 = (⟨n, 0, 0, 0, 0, 0, 0⟩, (s1, 0))) := rfl
  have HE6 := Lib.hid hE6
  clear hE6
  obtain ⟨RJ, hRJ⟩ : ∃ RJ, rdJ L (⟨n, 0, 0, 0, 0, 0, 0⟩, (s1, 0)) = RJ := ⟨_, rfl⟩
  rw [hRJ] at HSU HJ0 HE6
  clear hRJ
  have HR : Hid (∀ a, RAt 60 (w.alloc a) g s e) := fun a => h.below (boxes1 w a).2
  have HG : Hid (∀ a, Gr g w (w.alloc a)) := fun a => gr_below (boxes1 w a).2
  have HBX := Lib.hid (boxes1 w (.cells #[.int .i64 0, .int .i64 0, .int .i64 0, .int .i64 0, .int .i64 0, .int .i64 0, .int .i64 0] 23))
  have HL : Hid (g < w.heap.size) := h.lt
  clear hy he h hs
  go_enter Try.func34, Try.ntmps34
  go_wp2_with fail
  refine (HN.out _ (HR.out _)).mono ?_
  rintro en w1 ⟨rfl, g1, r1⟩
  have hne : w.heap.size ≠ g := by have := HL.out; omega
  have x1 := gr_keep g1 HBX.out.1 hne
  have hR2 : RAt 60 (w1.alloc (.cells #[.int .i64 n, .int .i64 0, .int .i64 0, .int .i64 0, .int .i64 0, .int .i64 0, .int .i64 0] 23)) g s1 0 := r1.below (boxes1 w1 _).2
  have r0 := hR2.c0
  have r1' := hR2.c1
  have rf0 := hR2.f 0
  have rf1 := hR2.f 1
  have x2 := alloc_keep (p := (.cells #[.int .i64 n, .int .i64 0, .int .i64 0, .int .i64 0, .int .i64 0, .int .i64 0, .int .i64 0] 23)) x1
  have G1 := Lib.hid (gr_trans (HG.out _) g1)
  have R2 := Lib.hid hR2
  have C2 := Lib.hid (boxes1 w1 (.cells #[.int .i64 n, .int .i64 0, .int .i64 0, .int .i64 0, .int .i64 0, .int .i64 0, .int .i64 0] 23)).1
  have n0 := one_first C2.out
  have HX2 := Lib.hid x2
  have HLG : Hid (w.heap.size < (w1.alloc (.cells #[.int .i64 n, .int .i64 0, .int .i64 0, .int .i64 0, .int .i64 0, .int .i64 0, .int .i64 0] 23)).heap.size) := lt_of_block x2
  have HLW : Hid (w.heap.size < w1.heap.size) := lt_of_block x1
  have HGW : Hid (w.heap.size ≤ w1.heap.size) := Nat.le_of_lt (lt_of_block x1)
  have hgne : w1.heap.size ≠ g := by have := HL.out; have := lt_of_block x1; omega
  clear x1 x2 hR2 g1 r1
  go_wp2_with fail
  refine (HH.out _).mono ?_
  rintro en w3 ⟨rfl, h3⟩
  have R3 := Lib.hid (R2.out.below h3)
  have X3 := Lib.hid ((h3.block _ HLG.out).trans HX2.out)
  have C3 := Lib.hid ((h3.block _ (lt_of_block C2.out)).trans C2.out)
  have G3 := Lib.hid (gr_trans (gr_alloc G1.out) (gr_below (g := g) h3))
  clear h3 n0 r0 r1' rf0 rf1
  go_wp2_with fail
  go_loopw [5] (fun iv wr => ∃ j : Nat, j ≤ L.length ∧ iv = .int .i64 j ∧ CB wr w1.heap.size (RJ j).1 ∧ RAt 60 wr g (RJ j).2.1 (RJ j).2.2 ∧ Gr g w wr ∧ wr.heap[w.heap.size]? = some (.cells #[.int .i64 0, .int .i64 0, .int .i64 0, .int .i64 0, .int .i64 0, .int .i64 0, .int .i64 0] 23 (0, 0)) ∧ (RJ j).2.1.size ≤ 1000000) (fun iv _ => L.length - (intOf iv).toNat)
  case atStart => exact ⟨0, Nat.zero_le _, rfl, by rw [HJ0.out]; exact C3.out, by rw [HJ0.out]; exact R3.out, G3.out, X3.out, by rw [HJ0.out]; exact HS.out⟩
  case round =>
    obtain ⟨j, hj, rfl, hcb, hrt, hgr, hzz, hss⟩ := hrel
    have hj2 : (j : Int) ≤ L.length := by omega
    by_cases hlt : j < L.length
    · have hlt2 : (j : Int) < L.length := by omega
      have HSJ := Lib.hid (HSU.out j hlt)
      obtain ⟨⟨C, sj, ej⟩, hC⟩ : ∃ C, RJ j = C := ⟨_, rfl⟩
      rw [hC] at HSJ hcb hrt hss
      simp only [] at HSJ hcb hrt hss
      have HNJ := Lib.hid (fun W (hW : RAt 60 W g sj ej) => rnum_any g sj ej hss W hW)
      have HSS := Lib.hid (Nat.le_trans (rd_size sj ej) hss)
      obtain ⟨⟨m, s2, e2⟩, hy2⟩ : ∃ y, rd sj ej = y := ⟨_, rfl⟩
      rw [hy2] at HSJ HNJ HSS
      simp only [] at HSJ HNJ HSS
      have HWJ : Hid (∀ W, Calls Try.prog 27 #[cmv C, .int .u8 ((((⟨L.toArray⟩ : ByteArray)[j]'hlt).toNat : Nat) : Int), .int .i64 m] W (Ret (cmv (withL C (L[j]).toNat m)) W)) := fun W => HW.out C (L[j]).toNat m W
      obtain ⟨D, hD⟩ : ∃ D, withL C (L[j]).toNat m = D := ⟨_, rfl⟩
      rw [hD] at HWJ HSJ
      obtain ⟨m0, m1, m2, m3, m4, m5, m6⟩ := hcb.cells
      have F := hcb.free
      have f0 := F 0
      have f1 := F 1
      have f2 := F 2
      have f3 := F 3
      have f4 := F 4
      have f5 := F 5
      have f6 := F 6
      have HCB := Lib.hid hcb
      have HLC : Hid (w1.heap.size < wr.drew.heap.size) := lt_of_block hcb
      have HLZ : Hid (w.heap.size < wr.drew.heap.size) := lt_of_block hzz
      have HRT := Lib.hid hrt
      have HGR := Lib.hid hgr
      have HZZ := Lib.hid hzz
      clear F hcb hrt hgr hzz hss hC hD hy2
      go_wp2_with fail
      go_region_with (first | (go_at_call 44; refine (HNJ.out _ (by exact HRT.out)).mono ?_; rintro en w5 ⟨rfl, g5, r5⟩; (have c5 : CB w5 w1.heap.size C := (g5.block _ HLC.out (fun e => hgne (by injection e))).trans HCB.out); obtain ⟨p0, p1, p2, p3, p4, p5, p6⟩ := c5.cells; (have HC5 := Lib.hid c5); (have HG5 : Hid (Gr g w w5) := gr_trans (gr_trans HGR.out (gr_below (Below.refl wr.heap.size wr).drew)) g5); (have HZ5 := Lib.hid ((g5.block _ HLZ.out (fun e => hne (by injection e))).trans HZZ.out)); (have HR5 := Lib.hid r5); clear c5 g5 r5) | (go_at_call 27; refine (HWJ.out _).mono ?_; rintro en w6 ⟨rfl, h6⟩; (have c6 : CB w6 w1.heap.size C := (h6.block _ (lt_of_block HC5.out)).trans HC5.out); obtain ⟨t0, t1, t2, t3, t4, t5, t6⟩ := c6.cells; (have F6 := c6.free); (have u0 := F6 0); (have u1 := F6 1); (have u2 := F6 2); (have u3 := F6 3); (have u4 := F6 4); (have u5 := F6 5); (have u6 := F6 6); (have HC6 := Lib.hid c6); (have HG6 : Hid (Gr g w w6) := gr_trans HG5.out (gr_below h6)); (have HZ6 := Lib.hid ((h6.block _ (lt_of_block HZ5.out)).trans HZ5.out)); (have HR6 := Lib.hid (HR5.out.below h6)); clear F6 c6 h6))
      all_goals
        go_wp2_with fail
        go_roundw
        case rel => exact ⟨j + 1, by omega, by go_num, by rw [HSJ.out]; exact seven_set HC6.out _ _ _ _ _ _ _, by rw [HSJ.out]; exact co_other (co_other (co_other (co_other (co_other (co_other (co_other (HR6.out) hgne.symm) hgne.symm) hgne.symm) hgne.symm) hgne.symm) hgne.symm) hgne.symm, gr_new (gr_new (gr_new (gr_new (gr_new (gr_new (gr_new (HG6.out) HGW.out) HGW.out) HGW.out) HGW.out) HGW.out) HGW.out) HGW.out, co_other (co_other (co_other (co_other (co_other (co_other (co_other (HZ6.out) (Nat.ne_of_lt HLW.out)) (Nat.ne_of_lt HLW.out)) (Nat.ne_of_lt HLW.out)) (Nat.ne_of_lt HLW.out)) (Nat.ne_of_lt HLW.out)) (Nat.ne_of_lt HLW.out)) (Nat.ne_of_lt HLW.out), by rw [HSJ.out]; exact HSS.out⟩
        case measure => simp [intOf]; omega
    · have heq : j = L.length := by omega
      subst heq
      have hlt2 : ¬ ((L.length : Nat) : Int) < L.length := by omega
      rw [← HE6.out] at hcb hrt hss
      obtain ⟨k0, k1, k2, k3, k4, k5, k6⟩ := hcb.cells
      have q1 := hrt.c1
      obtain ⟨a0, a1, a2, a3, a4, a5, a6⟩ := seven_cells hzz
      have F := seven_free hzz
      have f0 := F 0
      have f1 := F 1
      have f2 := F 2
      have f3 := F 3
      have f4 := F 4
      have f5 := F 5
      have f6 := F 6
      clear F
      have HGR := Lib.hid hgr
      have HRT := Lib.hid hrt
      have HSS := Lib.hid hss
      by_cases hz : E6.2.2 = 0
      · have hv : Hid (keepC E6 = E6.1) := if_pos hz
        have X := Lib.hid (seven_set hzz (.int .i64 E6.1.k) (.int .i64 E6.1.i) (.int .i64 E6.1.m) (.int .i64 E6.1.o) (.int .i64 E6.1.s) (.int .i64 E6.1.q) (.int .i64 E6.1.p))
        have d1 : (E6.2.2 == 0) = true := by simp [hz]
        have d2 : (E6.2.2 != 0) = false := by simp [hz]
        clear hcb hrt hgr hzz hss hz
        go_wp2_with fail
        obtain ⟨z0, z1, z2, z3, z4, z5, z6⟩ := seven_cells X.out
        refine bodyPost_ret (v := cmv E6.1) (by simp [results, Try.results34, go_sem, z0, z1, z2, z3, z4, z5, z6]) rfl ?_
        exact ⟨by rw [hv.out], gr_new (gr_new (gr_new (gr_new (gr_new (gr_new (gr_new (HGR.out) (Nat.le_refl _)) (Nat.le_refl _)) (Nat.le_refl _)) (Nat.le_refl _)) (Nat.le_refl _)) (Nat.le_refl _)) (Nat.le_refl _), co_other (co_other (co_other (co_other (co_other (co_other (co_other (HRT.out) hne.symm) hne.symm) hne.symm) hne.symm) hne.symm) hne.symm) hne.symm, HSS.out⟩
      · have hv : Hid (keepC E6 = zeroC) := if_neg hz
        have X := Lib.hid (seven_set hzz (.int .i64 0) (.int .i64 0) (.int .i64 0) (.int .i64 0) (.int .i64 0) (.int .i64 0) (.int .i64 0))
        have d1 : (E6.2.2 == 0) = false := by simp [hz]
        have d2 : (E6.2.2 != 0) = true := by simp [hz]
        clear hcb hrt hgr hzz hss hz
        go_wp2_with fail
        obtain ⟨z0, z1, z2, z3, z4, z5, z6⟩ := seven_cells X.out
        refine bodyPost_ret (v := .agg #[.int .i64 0, .int .i64 0, .int .i64 0, .int .i64 0, .int .i64 0, .int .i64 0, .int .i64 0]) (by simp [results, Try.results34, go_sem, z0, z1, z2, z3, z4, z5, z6]) rfl ?_
        exact ⟨by rw [hv.out]; rfl, gr_new (gr_new (gr_new (gr_new (gr_new (gr_new (gr_new (HGR.out) (Nat.le_refl _)) (Nat.le_refl _)) (Nat.le_refl _)) (Nat.le_refl _)) (Nat.le_refl _)) (Nat.le_refl _)) (Nat.le_refl _), co_other (co_other (co_other (co_other (co_other (co_other (co_other (HRT.out) hne.symm) hne.symm) hne.symm) hne.symm) hne.symm) hne.symm) hne.symm, HSS.out⟩
end Go.Proofs.Ytbpaongnehgodaa
