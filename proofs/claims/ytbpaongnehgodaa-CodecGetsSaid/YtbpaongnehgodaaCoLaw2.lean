/- CodecGets, walked. -/
import Derived.Test.YtbpaongnehgodaaCoTop
namespace Go.Proofs.Ytbpaongnehgodaa
open Go.ChangeShapes Go.WideShapes Go.ChangeAt Go.RowKit
theorem keepCC {w w1 : World} {g : Nat} {c : Cm} (h : CB w g c) (hb : Below w.heap.size w w1) : CB w1 g c := (hb.block _ (lt_of_block h)).trans h
set_option maxHeartbeats 4000000 in
theorem rget_any (s : ByteArray) (hs : s.size ≤ 1000000) (w : World) : Calls Try.prog 14 #[.string s] w (Ret (cgetV s) w) := by
  have HR := Lib.hid (fun g W (h : RAt 60 W g s 0) => rread_any g s 0 hs W h)
  have HV : Hid (cgetV s = if getE s = 0 then .tuple #[cmv (readC s 0).1, .int .i64 0] else .tuple #[cmv zeroC, .int .i64 (getE s)]) := rfl
  have HE : Hid (endV (rrC s 0).2.1 (rrC s 0).2.2 = getE s) := by
    show _ = _
    unfold rrC getE
    by_cases h : (readC s 0).2.2 = 0
    · rw [if_pos h]
      simp only []
      rw [h, (read_back s 0 h).2.1, if_pos rfl]
    · rw [if_neg h, if_neg h]
      simp only []
      unfold endV
      rw [if_pos h]
  have HC : Hid (getE s = 0 → (rrC s 0).1 = (readC s 0).1) := fun h => by
    unfold rrC
    by_cases h2 : (readC s 0).2.2 = 0
    · rw [if_pos h2]
    · unfold getE at h
      rw [if_neg h2] at h
      exact absurd h h2
  rw [HV.out]
  obtain ⟨E, hE⟩ : ∃ E, getE s = E := ⟨_, rfl⟩
  obtain ⟨c0, hc0⟩ : ∃ c0, (readC s 0).1 = c0 := ⟨_, rfl⟩
  obtain ⟨⟨c, s1, e1⟩, hR⟩ : ∃ R, rrC s 0 = R := ⟨_, rfl⟩
  rw [hR] at HR HE HC
  rw [hE] at HE HC ⊢
  rw [hc0] at HC ⊢
  simp only [] at HR HE HC
  have HB := Lib.hid (fun (w : World) => boxes2 w (.cells #[.int .i64 0, .int .i64 0, .int .i64 0, .int .i64 0, .int .i64 0, .int .i64 0, .int .i64 0] 23) (.cells #[.string s, .int .i64 0] 60))
  have hE2 : E = 0 ∨ E ≠ 0 := by omega
  clear hE hc0 hR HV hs
  rcases hE2 with hz | hz
  · rw [if_pos hz]
    have hcc := HC.out hz
    subst hz
    rw [← hcc]
    clear hcc HC
    go_enter Try.func14, Try.ntmps14
    go_wp2_with fail
    refine (HR.out _ _ (HB.out w).2.1).mono ?_
    rintro en w2 ⟨rfl, g2, r2, hs2⟩
    have y2 := gr_keep g2 (HB.out w).1 (by omega)
    have b1 := (HB.out w).2.2
    have b2 : Below w.heap.size w w2 := b1.trans ⟨g2.os, g2.tape, g2.output, g2.size, fun k hk => g2.block k (by have := b1.size; omega) (fun e => by injection e with e; omega)⟩
    have y3 := alloc_keep (p := .cells #[.int .i64 c.k, .int .i64 c.i, .int .i64 c.m, .int .i64 c.o, .int .i64 c.s, .int .i64 c.q, .int .i64 c.p] 23) y2
    have c3 : CB (w2.alloc (.cells #[.int .i64 c.k, .int .i64 c.i, .int .i64 c.m, .int .i64 c.o, .int .i64 c.s, .int .i64 c.q, .int .i64 c.p] 23)) w2.heap.size c := (boxes1 w2 _).1
    have b3 : Below w.heap.size w (w2.alloc (.cells #[.int .i64 c.k, .int .i64 c.i, .int .i64 c.m, .int .i64 c.o, .int .i64 c.s, .int .i64 c.q, .int .i64 c.p] 23)) := b2.alloc b2.size _
    have r3 := r2.below (boxes1 w2 (.cells #[.int .i64 c.k, .int .i64 c.i, .int .i64 c.m, .int .i64 c.o, .int .i64 c.s, .int .i64 c.q, .int .i64 c.p] 23)).2
    have HN := Lib.hid (refend_any _ _ _ _ r3)
    rw [HE.out] at HN
    obtain ⟨k0, k1, k2, k3, k4, k5, k6⟩ := c3.cells
    obtain ⟨q0, q1, q2, q3, q4, q5, q6⟩ := seven_cells y3
    have F := seven_free y3
    have f0 := F 0
    have f1 := F 1
    have f2 := F 2
    have f3 := F 3
    have f4 := F 4
    have f5 := F 5
    have f6 := F 6
    have XG := Lib.hid (seven_set y3 (.int .i64 c.k) (.int .i64 c.i) (.int .i64 c.m) (.int .i64 c.o) (.int .i64 c.s) (.int .i64 c.q) (.int .i64 c.p))
    have XZ := Lib.hid (seven_set y3 (.int .i64 0) (.int .i64 0) (.int .i64 0) (.int .i64 0) (.int .i64 0) (.int .i64 0) (.int .i64 0))
    have B3 := Lib.hid b3
    clear F y2 y3 b1 b2 b3 c3 g2 r2 r3 hs2 HB HE
    go_wp2_with fail
    refine HN.out.mono ?_
    rintro en w3 ⟨rfl, rfl⟩
    go_wp2_with fail
    obtain ⟨z0, z1, z2, z3, z4, z5, z6⟩ := seven_cells XG.out
    refine bodyPost_ret (v := .tuple #[cmv c, .int .i64 0]) (by simp [results, Try.results14, go_sem, z0, z1, z2, z3, z4, z5, z6]) rfl ?_
    exact ⟨rfl, (((((((B3.out).setCell (by exact Nat.le_refl _) _).setCell (by exact Nat.le_refl _) _).setCell (by exact Nat.le_refl _) _).setCell (by exact Nat.le_refl _) _).setCell (by exact Nat.le_refl _) _).setCell (by exact Nat.le_refl _) _).setCell (by exact Nat.le_refl _) _⟩
  · rw [if_neg hz]
    have d1 : (E == 0) = false := by simp [hz]
    have d2 : (E != 0) = true := by simp [hz]
    clear HC
    go_enter Try.func14, Try.ntmps14
    go_wp2_with fail
    refine (HR.out _ _ (HB.out w).2.1).mono ?_
    rintro en w2 ⟨rfl, g2, r2, hs2⟩
    have y2 := gr_keep g2 (HB.out w).1 (by omega)
    have b1 := (HB.out w).2.2
    have b2 : Below w.heap.size w w2 := b1.trans ⟨g2.os, g2.tape, g2.output, g2.size, fun k hk => g2.block k (by have := b1.size; omega) (fun e => by injection e with e; omega)⟩
    have y3 := alloc_keep (p := .cells #[.int .i64 c.k, .int .i64 c.i, .int .i64 c.m, .int .i64 c.o, .int .i64 c.s, .int .i64 c.q, .int .i64 c.p] 23) y2
    have c3 : CB (w2.alloc (.cells #[.int .i64 c.k, .int .i64 c.i, .int .i64 c.m, .int .i64 c.o, .int .i64 c.s, .int .i64 c.q, .int .i64 c.p] 23)) w2.heap.size c := (boxes1 w2 _).1
    have b3 : Below w.heap.size w (w2.alloc (.cells #[.int .i64 c.k, .int .i64 c.i, .int .i64 c.m, .int .i64 c.o, .int .i64 c.s, .int .i64 c.q, .int .i64 c.p] 23)) := b2.alloc b2.size _
    have r3 := r2.below (boxes1 w2 (.cells #[.int .i64 c.k, .int .i64 c.i, .int .i64 c.m, .int .i64 c.o, .int .i64 c.s, .int .i64 c.q, .int .i64 c.p] 23)).2
    have HN := Lib.hid (refend_any _ _ _ _ r3)
    rw [HE.out] at HN
    obtain ⟨k0, k1, k2, k3, k4, k5, k6⟩ := c3.cells
    obtain ⟨q0, q1, q2, q3, q4, q5, q6⟩ := seven_cells y3
    have F := seven_free y3
    have f0 := F 0
    have f1 := F 1
    have f2 := F 2
    have f3 := F 3
    have f4 := F 4
    have f5 := F 5
    have f6 := F 6
    have XG := Lib.hid (seven_set y3 (.int .i64 c.k) (.int .i64 c.i) (.int .i64 c.m) (.int .i64 c.o) (.int .i64 c.s) (.int .i64 c.q) (.int .i64 c.p))
    have XZ := Lib.hid (seven_set y3 (.int .i64 0) (.int .i64 0) (.int .i64 0) (.int .i64 0) (.int .i64 0) (.int .i64 0) (.int .i64 0))
    have B3 := Lib.hid b3
    clear F y2 y3 b1 b2 b3 c3 g2 r2 r3 hs2 HB HE
    go_wp2_with fail
    refine HN.out.mono ?_
    rintro en w3 ⟨rfl, rfl⟩
    go_wp2_with fail
    obtain ⟨z0, z1, z2, z3, z4, z5, z6⟩ := seven_cells XZ.out
    refine bodyPost_ret (v := .tuple #[cmv zeroC, .int .i64 E]) (by simp [results, Try.results14, go_sem, z0, z1, z2, z3, z4, z5, z6, zeroC]) rfl ?_
    exact ⟨rfl, (((((((B3.out).setCell (by exact Nat.le_refl _) _).setCell (by exact Nat.le_refl _) _).setCell (by exact Nat.le_refl _) _).setCell (by exact Nat.le_refl _) _).setCell (by exact Nat.le_refl _) _).setCell (by exact Nat.le_refl _) _).setCell (by exact Nat.le_refl _) _⟩
theorem cgets_long (s : ByteArray) (hs : s.size ≤ 9223372036854775807) (hl : 200 < s.size) (w : World) :
    Calls Try.prog 4 #[.string s] w (Ret (.bool true) w) := by
  have d1 : decide (200 < (s.size : Int)) = true := by simp; omega
  have d2 := decide_eq_true hl
  have HA := Lib.hid (awake11_any w)
  clear hl hs
  go_enter Try.func4, Try.ntmps4
  go_wp2_with fail
  refine HA.out.mono ?_
  rintro e w1 ⟨rfl, h1⟩
  go_wp2
  go_ret
  exact ⟨rfl, h1⟩
set_option maxHeartbeats 4000000 in
theorem cgets_any (s : ByteArray) (hs : s.size ≤ 200) (w : World) :
    Calls Try.prog 4 #[.string s] w (Ret (.bool true) w) := by
  have hs2 : (s.size : Int) ≤ 200 := by omega
  have d1 : decide (200 < (s.size : Int)) = false := by simp; omega
  have d2 : decide (200 < s.size) = false := by simp; omega
  have HA := Lib.hid awake11_any
  have HG := Lib.hid (cget_any s (by omega))
  have HR := Lib.hid (rget_any s (by omega))
  by_cases hE : getE s = 0
  · have e1 : cgetV s = .tuple #[cmv (readC s 0).1, .int .i64 0] := by unfold cgetV; rw [if_pos hE]
    rw [e1] at HG HR
    have hb : (readC s 0).1.In ∧ rightV (readC s 0).1 = true ∧ s = ⟨(bytesC (readC s 0).1).toArray⟩ := by
      unfold getE at hE
      by_cases h2 : (readC s 0).2.2 = 0
      · rw [if_pos h2] at hE
        obtain ⟨_, k1, k2, k3, k4⟩ := read_back s 0 h2
        refine ⟨k2, k3, ?_⟩
        have hz : ¬ 0 < (readC s 0).2.1.1.size := fun hz => by
          have e9 : endV (readC s 0).2.1.1 (readC s 0).2.1.2 = 3 := by unfold endV; rw [k1, if_neg (by simp), if_pos hz]
          rw [e9] at hE
          exact absurd hE (by decide)
        have he := empty_of_size hz
        rw [he] at k4
        have k5 : s.data.toList = bytesC (readC s 0).1 := by simpa using k4
        exact (ofl s).symm.trans (congrArg (fun l : List UInt8 => (⟨l.toArray⟩ : ByteArray)) k5)
      · rw [if_neg h2] at hE
        exact absurd hE h2
    obtain ⟨c, hc⟩ : ∃ c, (readC s 0).1 = c := ⟨_, rfl⟩
    rw [hc] at HG HR hb
    obtain ⟨b1, b2, b3⟩ := hb
    have HRR := Lib.hid (rright_any c)
    rw [b2] at HRR
    have HRP := Lib.hid (rput_any c b1)
    unfold txt at HRP
    rw [← b3] at HRP
    have heq : ∀ W, (binOp .neq 23 (cmv c) (cmv c)).run Try.prog W = .ok (.bool false) W := fun W => by rw [run_neq_cm, cmEq_iff.2 rfl]; rfl
    have HX := Lib.hid (fun w => (boxes1 w (.cells #[.int .i64 c.k, .int .i64 c.i, .int .i64 c.m, .int .i64 c.o, .int .i64 c.s, .int .i64 c.q, .int .i64 c.p] 23)))
    clear hc b1 b2 b3 e1 hE hs
    go_enter Try.func4, Try.ntmps4
    go_wp2_with fail
    refine (HG.out _).mono ?_
    rintro e w1 ⟨rfl, h1⟩
    have X1 : Hid (CB (w1.alloc (.cells #[.int .i64 c.k, .int .i64 c.i, .int .i64 c.m, .int .i64 c.o, .int .i64 c.s, .int .i64 c.q, .int .i64 c.p] 23)) w1.heap.size c) := (HX.out w1).1
    have B1 : Hid (Below w.heap.size w (w1.alloc (.cells #[.int .i64 c.k, .int .i64 c.i, .int .i64 c.m, .int .i64 c.o, .int .i64 c.s, .int .i64 c.q, .int .i64 c.p] 23))) := h1.alloc h1.size _
    clear h1
    go_wp2_with fail
    refine (HR.out _).mono ?_
    rintro e w2 ⟨rfl, h2⟩
    have X2 : Hid (CB (w2.alloc (.cells #[.int .i64 c.k, .int .i64 c.i, .int .i64 c.m, .int .i64 c.o, .int .i64 c.s, .int .i64 c.q, .int .i64 c.p] 23)) w1.heap.size c) := alloc_keep (keepCC X1.out h2)
    have Y2 : Hid (CB (w2.alloc (.cells #[.int .i64 c.k, .int .i64 c.i, .int .i64 c.m, .int .i64 c.o, .int .i64 c.s, .int .i64 c.q, .int .i64 c.p] 23)) w2.heap.size c) := (HX.out w2).1
    have B2 : Hid (Below w.heap.size w (w2.alloc (.cells #[.int .i64 c.k, .int .i64 c.i, .int .i64 c.m, .int .i64 c.o, .int .i64 c.s, .int .i64 c.q, .int .i64 c.p] 23))) := by
      have hb := B1.out.trans (h2.mono B1.out.size)
      exact hb.alloc hb.size _
    obtain ⟨k0, k1, k2, k3, k4, k5, k6⟩ := X2.out.cells
    obtain ⟨q0, q1, q2, q3, q4, q5, q6⟩ := Y2.out.cells
    clear h2
    go_wp2_with fail
    refine (HA.out _).mono ?_
    rintro e w3 ⟨rfl, h3⟩
    have X3 := Lib.hid (keepCC X2.out h3)
    have B3 : Hid (Below w.heap.size w w3) := B2.out.trans (h3.mono B2.out.size)
    obtain ⟨j0, j1, j2, j3, j4, j5, j6⟩ := X3.out.cells
    clear h3 k0 k1 k2 k3 k4 k5 k6 q0 q1 q2 q3 q4 q5 q6
    go_wp2_with fail
    refine (HRR.out _).mono ?_
    rintro e w4 ⟨rfl, h4⟩
    have X4 := Lib.hid (keepCC X3.out h4)
    have B4 : Hid (Below w.heap.size w w4) := B3.out.trans (h4.mono B3.out.size)
    obtain ⟨k0, k1, k2, k3, k4, k5, k6⟩ := X4.out.cells
    clear h4 j0 j1 j2 j3 j4 j5 j6
    go_wp2_with fail
    refine (HRP.out _).mono ?_
    rintro e w5 ⟨rfl, h5⟩
    have B5 : Hid (Below w.heap.size w w5) := B4.out.trans (h5.mono B4.out.size)
    clear h5
    go_wp2_with fail
    go_ret
    exact ⟨rfl, B5.out⟩
  · have e1 : cgetV s = .tuple #[cmv zeroC, .int .i64 (getE s)] := by unfold cgetV; rw [if_neg hE]
    rw [e1] at HG HR
    obtain ⟨E, hE2⟩ : ∃ E, getE s = E := ⟨_, rfl⟩
    rw [hE2] at HG HR hE
    have d3 : (E == 0) = false := by simp [hE]
    have d4 : (E != 0) = true := by simp [hE]
    have heq : ∀ W, (binOp .neq 23 (.agg #[.int .i64 0, .int .i64 0, .int .i64 0, .int .i64 0, .int .i64 0, .int .i64 0, .int .i64 0]) (.agg #[.int .i64 0, .int .i64 0, .int .i64 0, .int .i64 0, .int .i64 0, .int .i64 0, .int .i64 0])).run Try.prog W = .ok (.bool false) W := fun W => by
      have := run_neq_cm zeroC zeroC W
      rwa [cmEq_iff.2 rfl] at this
    have HG' : Hid (∀ W, Calls Try.prog 12 #[.string s] W (Ret (.tuple #[.agg #[.int .i64 0, .int .i64 0, .int .i64 0, .int .i64 0, .int .i64 0, .int .i64 0, .int .i64 0], .int .i64 E]) W)) := HG.out
    have HR' : Hid (∀ W, Calls Try.prog 14 #[.string s] W (Ret (.tuple #[.agg #[.int .i64 0, .int .i64 0, .int .i64 0, .int .i64 0, .int .i64 0, .int .i64 0, .int .i64 0], .int .i64 E]) W)) := HR.out
    have HX := Lib.hid (fun w => (boxes1 w (.cells #[.int .i64 0, .int .i64 0, .int .i64 0, .int .i64 0, .int .i64 0, .int .i64 0, .int .i64 0] 23)))
    clear hE2 e1 hE hs HG HR
    go_enter Try.func4, Try.ntmps4
    go_wp2_with fail
    refine (HG'.out _).mono ?_
    rintro e w1 ⟨rfl, h1⟩
    have X1 : Hid (CB (w1.alloc (.cells #[.int .i64 0, .int .i64 0, .int .i64 0, .int .i64 0, .int .i64 0, .int .i64 0, .int .i64 0] 23)) w1.heap.size zeroC) := (HX.out w1).1
    have B1 : Hid (Below w.heap.size w (w1.alloc (.cells #[.int .i64 0, .int .i64 0, .int .i64 0, .int .i64 0, .int .i64 0, .int .i64 0, .int .i64 0] 23))) := h1.alloc h1.size _
    clear h1
    go_wp2_with fail
    refine (HR'.out _).mono ?_
    rintro e w2 ⟨rfl, h2⟩
    have X2 : Hid (CB (w2.alloc (.cells #[.int .i64 0, .int .i64 0, .int .i64 0, .int .i64 0, .int .i64 0, .int .i64 0, .int .i64 0] 23)) w1.heap.size zeroC) := alloc_keep (keepCC X1.out h2)
    have B2 : Hid (Below w.heap.size w (w2.alloc (.cells #[.int .i64 0, .int .i64 0, .int .i64 0, .int .i64 0, .int .i64 0, .int .i64 0, .int .i64 0] 23))) := by
      have hb := B1.out.trans (h2.mono B1.out.size)
      exact hb.alloc hb.size _
    obtain ⟨k0, k1, k2, k3, k4, k5, k6⟩ := X2.out.cells
    clear h2
    go_wp2_with fail
    refine (HA.out _).mono ?_
    rintro e w3 ⟨rfl, h3⟩
    have B3 : Hid (Below w.heap.size w w3) := B2.out.trans (h3.mono B2.out.size)
    clear h3
    go_wp2_with fail
    go_ret
    exact ⟨rfl, B3.out⟩
end Go.Proofs.Ytbpaongnehgodaa
