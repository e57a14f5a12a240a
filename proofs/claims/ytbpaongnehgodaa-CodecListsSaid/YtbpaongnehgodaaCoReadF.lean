/- codec.read, whole. -/
import Derived.Test.YtbpaongnehgodaaCoRead
import Derived.Deep.RegionWith
namespace Go.Proofs.Ytbpaongnehgodaa
open Go.ChangeShapes Go.WideShapes Go.ChangeAt Go.RowKit
theorem err_h {g : Nat} {s : ByteArray} {e : Int} {w : World} (h : RAt 68 w g s e) : Calls Try.prog 41 #[ptr g] w (RetS (.int .i64 e) w) := err_any g s e w h
theorem gr_keep {g k : Nat} {a b : World} {o : Obj} (h : Gr g a b) (hk : a.heap[k]? = some o) (hne : k ≠ g) : b.heap[k]? = some o := (h.block k (lt_of_block hk) (fun e => hne (by injection e))).trans hk
theorem alloc_keep {k : Nat} {a : World} {o p : Obj} (hk : a.heap[k]? = some o) : (a.alloc p).heap[k]? = some o := (Below.heap_alloc _ _ _ (lt_of_block hk)).trans hk
theorem gr_drew {g : Nat} {a b : World} (h : Gr g a b) : Gr g a b.drew := ⟨h.os, h.tape, h.output, h.size, h.block⟩
theorem rat_drew {T g : Nat} {w : World} {s : ByteArray} {e : Int} (h : RAt T w g s e) : RAt T w.drew g s e := h
theorem cell_drew (w : World) (p : Addr) : w.drew.cell? p = w.cell? p := rfl
theorem z64 : -9223372036854775808 ≤ (0 : Int) ∧ (0 : Int) ≤ 9223372036854775807 := by decide
theorem one_first {w : World} {g : Nat} {a : Value} {cs : Array Value} {ty : TypeId} (h : w.heap[g]? = some (.cells cs ty (0, 0))) (ha : cs[0]? = some a := by rfl) : w.cell? ⟨g, 0, none⟩ = some a := by simp [World.cell?, h, ha]
set_option maxHeartbeats 4000000 in
theorem read_fail (g : Nat) (s : ByteArray) (e : Int) (hs : s.size ≤ 1000000) (w : World) (h : RAt 68 w g s e) (he : (rd s e).2.2 ≠ 0) :
    Calls Try.prog 30 #[ptr g] w (RdC g w (readC s e)) := by
  have HV : Hid (readC s e = (⟨(rd s e).1, 0, 0, 0, 0, 0, 0⟩, (rd s e).2, (rd s e).2.2)) := by show _ = _; unfold readC; rw [if_pos he]
  have hk : (rd s e).1 = (rd s e).1 := rfl
  have HN := Lib.hid (fun W (hW : RAt 68 W g s e) => num_any g s e hs W hW)
  have HS : Hid ((rd s e).2.1.size ≤ 1000000) := Nat.le_trans (readV_size _ s e) hs
  have HIN : Hid (-9223372036854775808 ≤ (rd s e).1 ∧ (rd s e).1 ≤ 9223372036854775807) := readV_in _ s e
  have eR : readV (fun _ _ => 0) s e = rd s e := rfl
  rw [eR] at HN
  rw [HV.out]
  obtain ⟨y, hy⟩ : ∃ y, rd s e = y := ⟨_, rfl⟩
  rw [hy] at HN HS HIN he hk ⊢
  obtain ⟨n, s1, e1⟩ := y
  simp only [] at HN HS HIN he hk ⊢
  have d1 : (e1 == 0) = false := by simp [he]
  have d2 : (e1 != 0) = true := by simp [he]
  have HR : Hid (∀ a b, RAt 68 ((w.alloc a).alloc b) g s e) := fun a b => h.below (boxes2 w a b).2.2
  have HG : Hid (∀ a b, Gr g w ((w.alloc a).alloc b)) := fun a b => gr_below (boxes2 w a b).2.2
  have HBX := Lib.hid (boxes2 w (.cells #[ptr g] 52) (.cells #[.int .i64 0, .int .i64 0, .int .i64 0, .int .i64 0, .int .i64 0, .int .i64 0, .int .i64 0] 23))
  have HL : Hid (g < w.heap.size) := h.lt
  clear HV hy eR he h hs hk
  go_enter Try.func30, Try.ntmps30
  go_wp2_with fail
  refine (HN.out _ (HR.out _ _)).mono ?_
  rintro en w1 ⟨rfl, g1, r1⟩
  have x0 := gr_keep g1 HBX.out.1 (by have := HL.out; omega)
  have x1 := gr_keep g1 HBX.out.2.1 (by have := HL.out; omega)
  have y0 := alloc_keep (p := (.cells #[.int .i64 n, .int .i64 0, .int .i64 0, .int .i64 0, .int .i64 0, .int .i64 0, .int .i64 0] 23)) x0
  have p0 := one_cell y0
  have hR2 : RAt 68 (w1.alloc (.cells #[.int .i64 n, .int .i64 0, .int .i64 0, .int .i64 0, .int .i64 0, .int .i64 0, .int .i64 0] 23)) g s1 e1 := r1.below (boxes1 w1 _).2
  have HE := Lib.hid (err_h hR2)
  have x2 := alloc_keep (p := (.cells #[.int .i64 n, .int .i64 0, .int .i64 0, .int .i64 0, .int .i64 0, .int .i64 0, .int .i64 0] 23)) x1
  have hne : w.heap.size + 1 ≠ g := by have := HL.out; omega
  have G1 := Lib.hid (gr_trans (HG.out _ _) g1)
  obtain ⟨q0, q1, q2, q3, q4, q5, q6⟩ := seven_cells x2
  have F := seven_free x2
  have f0 := F 0
  have f1 := F 1
  have f2 := F 2
  have f3 := F 3
  have f4 := F 4
  have f5 := F 5
  have f6 := F 6
  clear F
  have X := Lib.hid (seven_set x2 (.int .i64 n) (.int .i64 0) (.int .i64 0) (.int .i64 0) (.int .i64 0) (.int .i64 0) (.int .i64 0))
  have R2 := Lib.hid hR2
  clear x0 x1 x2 y0 hR2 g1 r1
  go_wp2_with fail
  refine HE.out.mono ?_
  rintro en w2 ⟨rfl, rfl⟩
  go_wp2_with fail
  obtain ⟨z0, z1, z2, z3, z4, z5, z6⟩ := seven_cells X.out
  refine bodyPost_ret (v := .tuple #[.agg #[.int .i64 n, .int .i64 0, .int .i64 0, .int .i64 0, .int .i64 0, .int .i64 0, .int .i64 0], .int .i64 e1]) (by simp [results, Try.results30, go_sem, z0, z1, z2, z3, z4, z5, z6]) rfl ?_
  exact ⟨rfl, gr_new (gr_new (gr_new (gr_new (gr_new (gr_new (gr_new (gr_alloc G1.out) (Nat.le_succ _)) (Nat.le_succ _)) (Nat.le_succ _)) (Nat.le_succ _)) (Nat.le_succ _)) (Nat.le_succ _)) (Nat.le_succ _), co_other (co_other (co_other (co_other (co_other (co_other (co_other (R2.out) hne.symm) hne.symm) hne.symm) hne.symm) hne.symm) hne.symm) hne.symm, HS.out⟩
set_option maxHeartbeats 4000000 in
theorem read_none (g : Nat) (s : ByteArray) (e : Int) (hs : s.size ≤ 1000000) (w : World) (h : RAt 68 w g s e) (he : (rd s e).2.2 = 0) (hk : isK (rd s e).1 = false) :
    Calls Try.prog 30 #[ptr g] w (RdC g w (readC s e)) := by
  have HV : Hid (readC s e = (⟨(rd s e).1, 0, 0, 0, 0, 0, 0⟩, (rd s e).2, 3)) := by show _ = _; unfold readC; rw [if_neg (by simp [he]), if_neg (by simp [hk])]
  have HN := Lib.hid (fun W (hW : RAt 68 W g s e) => num_any g s e hs W hW)
  have HS : Hid ((rd s e).2.1.size ≤ 1000000) := Nat.le_trans (readV_size _ s e) hs
  have HIN : Hid (-9223372036854775808 ≤ (rd s e).1 ∧ (rd s e).1 ≤ 9223372036854775807) := readV_in _ s e
  have eR : readV (fun _ _ => 0) s e = rd s e := rfl
  rw [eR] at HN
  rw [HV.out]
  obtain ⟨y, hy⟩ : ∃ y, rd s e = y := ⟨_, rfl⟩
  rw [hy] at HN HS HIN he hk ⊢
  obtain ⟨n, s1, e1⟩ := y
  simp only [] at HN HS HIN he hk ⊢
  have he2 := he
  subst he2
  have HH := Lib.hid (has_any n)
  rw [hk] at HH
  have HR : Hid (∀ a b, RAt 68 ((w.alloc a).alloc b) g s e) := fun a b => h.below (boxes2 w a b).2.2
  have HG : Hid (∀ a b, Gr g w ((w.alloc a).alloc b)) := fun a b => gr_below (boxes2 w a b).2.2
  have HBX := Lib.hid (boxes2 w (.cells #[ptr g] 52) (.cells #[.int .i64 0, .int .i64 0, .int .i64 0, .int .i64 0, .int .i64 0, .int .i64 0, .int .i64 0] 23))
  have HL : Hid (g < w.heap.size) := h.lt
  clear HV hy eR he h hs hk
  go_enter Try.func30, Try.ntmps30
  go_wp2_with fail
  refine (HN.out _ (HR.out _ _)).mono ?_
  rintro en w1 ⟨rfl, g1, r1⟩
  have x0 := gr_keep g1 HBX.out.1 (by have := HL.out; omega)
  have x1 := gr_keep g1 HBX.out.2.1 (by have := HL.out; omega)
  have y0 := alloc_keep (p := (.cells #[.int .i64 n, .int .i64 0, .int .i64 0, .int .i64 0, .int .i64 0, .int .i64 0, .int .i64 0] 23)) x0
  have p0 := one_cell y0
  have hR2 : RAt 68 (w1.alloc (.cells #[.int .i64 n, .int .i64 0, .int .i64 0, .int .i64 0, .int .i64 0, .int .i64 0, .int .i64 0] 23)) g s1 0 := r1.below (boxes1 w1 _).2
  have HE := Lib.hid (err_h hR2)
  have x2 := alloc_keep (p := (.cells #[.int .i64 n, .int .i64 0, .int .i64 0, .int .i64 0, .int .i64 0, .int .i64 0, .int .i64 0] 23)) x1
  have hne : w.heap.size + 1 ≠ g := by have := HL.out; omega
  have G1 := Lib.hid (gr_trans (HG.out _ _) g1)
  have n0 := one_first (heap_alloc_new w1 (.cells #[.int .i64 n, .int .i64 0, .int .i64 0, .int .i64 0, .int .i64 0, .int .i64 0, .int .i64 0] 23))
  clear p0 hR2
  obtain ⟨b, hb⟩ : ∃ b, hasB n = b := ⟨_, rfl⟩
  rw [hb] at HH
  clear hb
  have x3 := alloc_keep (p := .cells #[.int .i64 b] 3) x2
  have R2 : Hid (RAt 68 ((w1.alloc (.cells #[.int .i64 n, .int .i64 0, .int .i64 0, .int .i64 0, .int .i64 0, .int .i64 0, .int .i64 0] 23)).alloc (.cells #[.int .i64 b] 3)) g s1 0) := r1.below (boxes2 w1 _ _).2.2
  have p0 := one_cell y0
  obtain ⟨q0, q1, q2, q3, q4, q5, q6⟩ := seven_cells x3
  have F := seven_free x3
  have f0 := F 0
  have f1 := F 1
  have f2 := F 2
  have f3 := F 3
  have f4 := F 4
  have f5 := F 5
  have f6 := F 6
  clear F
  have X := Lib.hid (seven_set x3 (.int .i64 n) (.int .i64 0) (.int .i64 0) (.int .i64 0) (.int .i64 0) (.int .i64 0) (.int .i64 0))
  clear x0 x1 x2 x3 y0 g1 r1
  go_wp2_with fail
  refine HE.out.mono ?_
  rintro en w2 ⟨rfl, rfl⟩
  go_wp2_with fail
  refine (HH.out _).mono ?_
  rintro en w2 ⟨rfl, rfl⟩
  go_wp2_with fail
  obtain ⟨z0, z1, z2, z3, z4, z5, z6⟩ := seven_cells X.out
  refine bodyPost_ret (v := .tuple #[.agg #[.int .i64 n, .int .i64 0, .int .i64 0, .int .i64 0, .int .i64 0, .int .i64 0, .int .i64 0], .int .i64 3]) (by simp [results, Try.results30, go_sem, z0, z1, z2, z3, z4, z5, z6]) rfl ?_
  exact ⟨rfl, gr_new (gr_new (gr_new (gr_new (gr_new (gr_new (gr_new (gr_alloc (gr_alloc G1.out)) (Nat.le_succ _)) (Nat.le_succ _)) (Nat.le_succ _)) (Nat.le_succ _)) (Nat.le_succ _)) (Nat.le_succ _)) (Nat.le_succ _), co_other (co_other (co_other (co_other (co_other (co_other (co_other (R2.out) hne.symm) hne.symm) hne.symm) hne.symm) hne.symm) hne.symm) hne.symm, HS.out⟩
set_option maxHeartbeats 4000000 in
theorem read_full (g : Nat) (s : ByteArray) (e : Int) (hs : s.size ≤ 1000000) (w : World) (h : RAt 68 w g s e) (he : (rd s e).2.2 = 0) (hk : isK (rd s e).1 = true) :
    Calls Try.prog 30 #[ptr g] w (RdC g w (readC s e)) := by
  have HV : Hid (readC s e = ((eachV (stR (hasB (rd s e).1)) (rd s e).2 ⟨(rd s e).1, 0, 0, 0, 0, 0, 0⟩).1, (eachV (stR (hasB (rd s e).1)) (rd s e).2 ⟨(rd s e).1, 0, 0, 0, 0, 0, 0⟩).2, (eachV (stR (hasB (rd s e).1)) (rd s e).2 ⟨(rd s e).1, 0, 0, 0, 0, 0, 0⟩).2.2)) := by show _ = _; unfold readC; rw [if_neg (by simp [he]), if_pos hk]
  have HN := Lib.hid (fun W (hW : RAt 68 W g s e) => num_any g s e hs W hW)
  have HS : Hid ((rd s e).2.1.size ≤ 1000000) := Nat.le_trans (readV_size _ s e) hs
  have HIN : Hid (-9223372036854775808 ≤ (rd s e).1 ∧ (rd s e).1 ≤ 9223372036854775807) := readV_in _ s e
  have eR : readV (fun _ _ => 0) s e = rd s e := rfl
  rw [eR] at HN
  rw [HV.out]
  obtain ⟨y, hy⟩ : ∃ y, rd s e = y := ⟨_, rfl⟩
  rw [hy] at HN HS HIN he hk ⊢
  obtain ⟨n, s1, e1⟩ := y
  simp only [] at HN HS HIN he hk ⊢
  have he2 := he
  subst he2
  have HH := Lib.hid (has_any n)
  rw [hk] at HH
  obtain ⟨b, hb⟩ : ∃ b, hasB n = b := ⟨_, rfl⟩
  rw [hb] at HH ⊢
  have hg0 := h.lt
  have HEA : Hid (∀ w1 : World, w.heap.size + 1 < w1.heap.size → ∀ W, CB W w1.heap.size ⟨n, 0, 0, 0, 0, 0, 0⟩ → RdI w1 g (w1.heap.size + 1) w.heap.size b W (s1, 0) → _) := fun w1 hl W k1 k2 => each_any (read1_ok w1 w1.heap.size g (w1.heap.size + 1) w.heap.size b (by omega) (Nat.le_refl _) (by omega) (by omega) (by omega) (by omega)) ⟨n, 0, 0, 0, 0, 0, 0⟩ ⟨HIN.out, z64, z64, z64, z64, z64, z64⟩ (s1, 0) W k1 k2
  obtain ⟨E6, hE⟩ : ∃ E6, eachV (stR b) (s1, 0) ⟨n, 0, 0, 0, 0, 0, 0⟩ = E6 := ⟨_, rfl⟩
  rw [hE] at HEA ⊢
  clear hE hb
  have HR : Hid (∀ a b, RAt 68 ((w.alloc a).alloc b) g s e) := fun a b => h.below (boxes2 w a b).2.2
  have HG : Hid (∀ a b, Gr g w ((w.alloc a).alloc b)) := fun a b => gr_below (boxes2 w a b).2.2
  have HBX := Lib.hid (boxes2 w (.cells #[ptr g] 52) (.cells #[.int .i64 0, .int .i64 0, .int .i64 0, .int .i64 0, .int .i64 0, .int .i64 0, .int .i64 0] 23))
  have HL : Hid (g < w.heap.size) := h.lt
  clear HV hy eR he h hs hk
  go_enter Try.func30, Try.ntmps30
  go_wp2_with fail
  refine (HN.out _ (HR.out _ _)).mono ?_
  rintro en w1 ⟨rfl, g1, r1⟩
  have x0 := gr_keep g1 HBX.out.1 (by have := HL.out; omega)
  have x1 := gr_keep g1 HBX.out.2.1 (by have := HL.out; omega)
  have y0 := alloc_keep (p := (.cells #[.int .i64 n, .int .i64 0, .int .i64 0, .int .i64 0, .int .i64 0, .int .i64 0, .int .i64 0] 23)) x0
  have p0 := one_cell y0
  have hR2 : RAt 68 (w1.alloc (.cells #[.int .i64 n, .int .i64 0, .int .i64 0, .int .i64 0, .int .i64 0, .int .i64 0, .int .i64 0] 23)) g s1 0 := r1.below (boxes1 w1 _).2
  have HE := Lib.hid (err_h hR2)
  have x2 := alloc_keep (p := (.cells #[.int .i64 n, .int .i64 0, .int .i64 0, .int .i64 0, .int .i64 0, .int .i64 0, .int .i64 0] 23)) x1
  have hne : w.heap.size + 1 ≠ g := by have := HL.out; omega
  have G1 := Lib.hid (gr_trans (HG.out _ _) g1)
  have n0 := one_first (heap_alloc_new w1 (.cells #[.int .i64 n, .int .i64 0, .int .i64 0, .int .i64 0, .int .i64 0, .int .i64 0, .int .i64 0] 23))
  clear p0 hR2
  have x3 := alloc_keep (p := .cells #[.int .i64 b] 3) x2
  have R2 : Hid (RAt 68 ((w1.alloc (.cells #[.int .i64 n, .int .i64 0, .int .i64 0, .int .i64 0, .int .i64 0, .int .i64 0, .int .i64 0] 23)).alloc (.cells #[.int .i64 b] 3)) g s1 0) := r1.below (boxes2 w1 _ _).2.2
  have hlt : w.heap.size + 1 < w1.heap.size := lt_of_block x1
  have RI : Hid (RdI w1 g (w1.heap.size + 1) w.heap.size b ((w1.alloc (.cells #[.int .i64 n, .int .i64 0, .int .i64 0, .int .i64 0, .int .i64 0, .int .i64 0, .int .i64 0] 23)).alloc (.cells #[.int .i64 b] 3)) (s1, 0)) := ⟨(boxes2 w1 _ _).2.1, alloc_keep y0, R2.out, gr_alloc (gr_alloc (gr_refl _ _)), HS.out⟩
  have CI : Hid (CB ((w1.alloc (.cells #[.int .i64 n, .int .i64 0, .int .i64 0, .int .i64 0, .int .i64 0, .int .i64 0, .int .i64 0] 23)).alloc (.cells #[.int .i64 b] 3)) w1.heap.size ⟨n, 0, 0, 0, 0, 0, 0⟩) := (boxes2 w1 _ _).1
  have HEB := Lib.hid (HEA.out w1 hlt _ CI.out RI.out)
  have HLT := Lib.hid hlt
  have p0 := one_cell y0
  have HX1 := Lib.hid x1
  clear x0 x1 x2 x3 y0 g1 r1 hlt
  go_wp2_with fail
  refine HE.out.mono ?_
  rintro en w2 ⟨rfl, rfl⟩
  go_wp2_with fail
  refine (HH.out _).mono ?_
  rintro en w2 ⟨rfl, rfl⟩
  go_wp2_with fail
  refine HEB.out.mono ?_
  rintro en w4 ⟨rfl, i4, b4⟩
  obtain ⟨k0, k1, k2, k3, k4, k5, k6⟩ := b4.cells
  have l0 := one_cell i4.box
  have x4 := gr_keep i4.gr HX1.out hne
  have F := seven_free x4
  have f0 := F 0
  have f1 := F 1
  have f2 := F 2
  have f3 := F 3
  have f4 := F 4
  have f5 := F 5
  have f6 := F 6
  clear F
  have HA4 := Lib.hid (seven_cells x4)
  obtain ⟨a0, a1, a2, a3, a4, a5, a6⟩ := seven_cells x4
  have X := Lib.hid (seven_set x4 (.int .i64 E6.1.k) (.int .i64 E6.1.i) (.int .i64 E6.1.m) (.int .i64 E6.1.o) (.int .i64 E6.1.s) (.int .i64 E6.1.q) (.int .i64 E6.1.p))
  have I4 := Lib.hid i4
  have HG4 := Lib.hid (gr_trans G1.out i4.gr)
  obtain ⟨z0, z1, z2, z3, z4, z5, z6⟩ := seven_cells X.out
  have Z0 : Hid ((((((((w4.setCell ⟨w.heap.size + 1, 0, none⟩ (.int .i64 E6.1.k)).setCell ⟨w.heap.size + 1, 1, none⟩ (.int .i64 E6.1.i)).setCell ⟨w.heap.size + 1, 2, none⟩ (.int .i64 E6.1.m)).setCell ⟨w.heap.size + 1, 3, none⟩ (.int .i64 E6.1.o)).setCell ⟨w.heap.size + 1, 4, none⟩ (.int .i64 E6.1.s)).setCell ⟨w.heap.size + 1, 5, none⟩ (.int .i64 E6.1.q)).setCell ⟨w.heap.size + 1, 6, none⟩ (.int .i64 E6.1.p)).drew.cell? ⟨w.heap.size + 1, 0, none⟩ = some (.int .i64 E6.1.k)) := (cell_drew _ _).trans z0
  have Z1 : Hid ((((((((w4.setCell ⟨w.heap.size + 1, 0, none⟩ (.int .i64 E6.1.k)).setCell ⟨w.heap.size + 1, 1, none⟩ (.int .i64 E6.1.i)).setCell ⟨w.heap.size + 1, 2, none⟩ (.int .i64 E6.1.m)).setCell ⟨w.heap.size + 1, 3, none⟩ (.int .i64 E6.1.o)).setCell ⟨w.heap.size + 1, 4, none⟩ (.int .i64 E6.1.s)).setCell ⟨w.heap.size + 1, 5, none⟩ (.int .i64 E6.1.q)).setCell ⟨w.heap.size + 1, 6, none⟩ (.int .i64 E6.1.p)).drew.cell? ⟨w.heap.size + 1, 1, none⟩ = some (.int .i64 E6.1.i)) := (cell_drew _ _).trans z1
  have Z2 : Hid ((((((((w4.setCell ⟨w.heap.size + 1, 0, none⟩ (.int .i64 E6.1.k)).setCell ⟨w.heap.size + 1, 1, none⟩ (.int .i64 E6.1.i)).setCell ⟨w.heap.size + 1, 2, none⟩ (.int .i64 E6.1.m)).setCell ⟨w.heap.size + 1, 3, none⟩ (.int .i64 E6.1.o)).setCell ⟨w.heap.size + 1, 4, none⟩ (.int .i64 E6.1.s)).setCell ⟨w.heap.size + 1, 5, none⟩ (.int .i64 E6.1.q)).setCell ⟨w.heap.size + 1, 6, none⟩ (.int .i64 E6.1.p)).drew.cell? ⟨w.heap.size + 1, 2, none⟩ = some (.int .i64 E6.1.m)) := (cell_drew _ _).trans z2
  have Z3 : Hid ((((((((w4.setCell ⟨w.heap.size + 1, 0, none⟩ (.int .i64 E6.1.k)).setCell ⟨w.heap.size + 1, 1, none⟩ (.int .i64 E6.1.i)).setCell ⟨w.heap.size + 1, 2, none⟩ (.int .i64 E6.1.m)).setCell ⟨w.heap.size + 1, 3, none⟩ (.int .i64 E6.1.o)).setCell ⟨w.heap.size + 1, 4, none⟩ (.int .i64 E6.1.s)).setCell ⟨w.heap.size + 1, 5, none⟩ (.int .i64 E6.1.q)).setCell ⟨w.heap.size + 1, 6, none⟩ (.int .i64 E6.1.p)).drew.cell? ⟨w.heap.size + 1, 3, none⟩ = some (.int .i64 E6.1.o)) := (cell_drew _ _).trans z3
  have Z4 : Hid ((((((((w4.setCell ⟨w.heap.size + 1, 0, none⟩ (.int .i64 E6.1.k)).setCell ⟨w.heap.size + 1, 1, none⟩ (.int .i64 E6.1.i)).setCell ⟨w.heap.size + 1, 2, none⟩ (.int .i64 E6.1.m)).setCell ⟨w.heap.size + 1, 3, none⟩ (.int .i64 E6.1.o)).setCell ⟨w.heap.size + 1, 4, none⟩ (.int .i64 E6.1.s)).setCell ⟨w.heap.size + 1, 5, none⟩ (.int .i64 E6.1.q)).setCell ⟨w.heap.size + 1, 6, none⟩ (.int .i64 E6.1.p)).drew.cell? ⟨w.heap.size + 1, 4, none⟩ = some (.int .i64 E6.1.s)) := (cell_drew _ _).trans z4
  have Z5 : Hid ((((((((w4.setCell ⟨w.heap.size + 1, 0, none⟩ (.int .i64 E6.1.k)).setCell ⟨w.heap.size + 1, 1, none⟩ (.int .i64 E6.1.i)).setCell ⟨w.heap.size + 1, 2, none⟩ (.int .i64 E6.1.m)).setCell ⟨w.heap.size + 1, 3, none⟩ (.int .i64 E6.1.o)).setCell ⟨w.heap.size + 1, 4, none⟩ (.int .i64 E6.1.s)).setCell ⟨w.heap.size + 1, 5, none⟩ (.int .i64 E6.1.q)).setCell ⟨w.heap.size + 1, 6, none⟩ (.int .i64 E6.1.p)).drew.cell? ⟨w.heap.size + 1, 5, none⟩ = some (.int .i64 E6.1.q)) := (cell_drew _ _).trans z5
  have Z6 : Hid ((((((((w4.setCell ⟨w.heap.size + 1, 0, none⟩ (.int .i64 E6.1.k)).setCell ⟨w.heap.size + 1, 1, none⟩ (.int .i64 E6.1.i)).setCell ⟨w.heap.size + 1, 2, none⟩ (.int .i64 E6.1.m)).setCell ⟨w.heap.size + 1, 3, none⟩ (.int .i64 E6.1.o)).setCell ⟨w.heap.size + 1, 4, none⟩ (.int .i64 E6.1.s)).setCell ⟨w.heap.size + 1, 5, none⟩ (.int .i64 E6.1.q)).setCell ⟨w.heap.size + 1, 6, none⟩ (.int .i64 E6.1.p)).drew.cell? ⟨w.heap.size + 1, 6, none⟩ = some (.int .i64 E6.1.p)) := (cell_drew _ _).trans z6
  clear z0 z1 z2 z3 z4 z5 z6
  have HGX : Hid (Gr g w (((((((w4.setCell ⟨w.heap.size + 1, 0, none⟩ (.int .i64 E6.1.k)).setCell ⟨w.heap.size + 1, 1, none⟩ (.int .i64 E6.1.i)).setCell ⟨w.heap.size + 1, 2, none⟩ (.int .i64 E6.1.m)).setCell ⟨w.heap.size + 1, 3, none⟩ (.int .i64 E6.1.o)).setCell ⟨w.heap.size + 1, 4, none⟩ (.int .i64 E6.1.s)).setCell ⟨w.heap.size + 1, 5, none⟩ (.int .i64 E6.1.q)).setCell ⟨w.heap.size + 1, 6, none⟩ (.int .i64 E6.1.p))) := gr_new (gr_new (gr_new (gr_new (gr_new (gr_new (gr_new (HG4.out) (Nat.le_succ _)) (Nat.le_succ _)) (Nat.le_succ _)) (Nat.le_succ _)) (Nat.le_succ _)) (Nat.le_succ _)) (Nat.le_succ _)
  have HRX : Hid (RAt 68 (((((((w4.setCell ⟨w.heap.size + 1, 0, none⟩ (.int .i64 E6.1.k)).setCell ⟨w.heap.size + 1, 1, none⟩ (.int .i64 E6.1.i)).setCell ⟨w.heap.size + 1, 2, none⟩ (.int .i64 E6.1.m)).setCell ⟨w.heap.size + 1, 3, none⟩ (.int .i64 E6.1.o)).setCell ⟨w.heap.size + 1, 4, none⟩ (.int .i64 E6.1.s)).setCell ⟨w.heap.size + 1, 5, none⟩ (.int .i64 E6.1.q)).setCell ⟨w.heap.size + 1, 6, none⟩ (.int .i64 E6.1.p)) g E6.2.1 E6.2.2) := co_other (co_other (co_other (co_other (co_other (co_other (co_other (I4.out.r) hne.symm) hne.symm) hne.symm) hne.symm) hne.symm) hne.symm) hne.symm
  have HER : Hid (∀ W, RAt 68 W g E6.2.1 E6.2.2 → Calls Try.prog 41 #[ptr g] W (RetS (.int .i64 E6.2.2) W)) := fun W h => err_h h
  clear x4 i4 b4
  go_wp2_with fail
  go_region_with ((go_at_call 41; refine (HER.out _ (by first | exact I4.out.r | exact co_other (I4.out.r) hne.symm)).mono ?_; rintro en w5 ⟨rfl, rfl⟩))
  all_goals
    go_wp2_with fail
    refine bodyPost_ret (v := .tuple #[cmv E6.1, .int .i64 E6.2.2]) (by simp [results, Try.results30, go_sem, Z0.out, Z1.out, Z2.out, Z3.out, Z4.out, Z5.out, Z6.out]) rfl ?_
    exact ⟨rfl, gr_drew HGX.out, rat_drew HRX.out, I4.out.small⟩
end Go.Proofs.Ytbpaongnehgodaa
