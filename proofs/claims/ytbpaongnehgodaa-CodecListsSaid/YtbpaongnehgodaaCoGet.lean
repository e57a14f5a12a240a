/- codec.Get. -/
import Derived.Test.YtbpaongnehgodaaCoReadF
namespace Go.Proofs.Ytbpaongnehgodaa
open Go.ChangeShapes Go.WideShapes Go.ChangeAt Go.RowKit
theorem cread_any (g : Nat) (s : ByteArray) (e : Int) (hs : s.size ≤ 1000000) (w : World) (h : RAt 68 w g s e) :
    Calls Try.prog 30 #[ptr g] w (RdC g w (readC s e)) := by
  by_cases he : (rd s e).2.2 = 0
  · cases hk : isK (rd s e).1 with
    | true => exact read_full g s e hs w h he hk
    | false => exact read_none g s e hs w h he hk
  · exact read_fail g s e hs w h he
/-- The error that Get tells. -/
def getE (s : ByteArray) : Int := if (readC s 0).2.2 = 0 then endV (readC s 0).2.1.1 (readC s 0).2.1.2 else (readC s 0).2.2
def zeroC : Cm := ⟨0, 0, 0, 0, 0, 0, 0⟩
/-- What Get answers. -/
def cgetV (s : ByteArray) : Value := if getE s = 0 then .tuple #[cmv (readC s 0).1, .int .i64 0] else .tuple #[cmv zeroC, .int .i64 (getE s)]
set_option maxHeartbeats 4000000 in
theorem cget_any (s : ByteArray) (hs : s.size ≤ 1000000) (w : World) : Calls Try.prog 12 #[.string s] w (Ret (cgetV s) w) := by
  have HN := Lib.hid (fun W => new_any s W)
  have HR := Lib.hid (fun g W (h : RAt 68 W g s 0) => cread_any g s 0 hs W h)
  have HG : Hid (getE s = if (readC s 0).2.2 = 0 then endV (readC s 0).2.1.1 (readC s 0).2.1.2 else (readC s 0).2.2) := rfl
  have HV : Hid (cgetV s = if getE s = 0 then .tuple #[cmv (readC s 0).1, .int .i64 0] else .tuple #[cmv zeroC, .int .i64 (getE s)]) := rfl
  rw [HV.out]
  obtain ⟨R, hR⟩ : ∃ R, readC s 0 = R := ⟨_, rfl⟩
  rw [hR] at HR HG ⊢
  obtain ⟨E, hE⟩ : ∃ E, getE s = E := ⟨_, rfl⟩
  rw [hE] at HG ⊢
  obtain ⟨⟨k, i, m, o, sc, q, p⟩, ⟨s1, e1⟩, e2⟩ := R
  simp only [] at HR HG ⊢
  have HB := Lib.hid (fun (w : World) => boxes1 w (.cells #[.int .i64 0, .int .i64 0, .int .i64 0, .int .i64 0, .int .i64 0, .int .i64 0, .int .i64 0] 23))
  have hE2 : E = 0 ∨ E ≠ 0 := by omega
  by_cases h2 : e2 = 0
  · have HG' : Hid (E = endV s1 e1) := by show _ = _; rw [HG.out, if_pos h2]
    subst h2
    clear hR hE HV HG hs
    rcases hE2 with hz | hz
    · rw [if_pos hz]
      subst hz
      go_enter Try.func12, Try.ntmps12
      go_wp2_with fail
      refine (HN.out _).mono ?_
      rintro en w1 ⟨rfl, h1, r1⟩
      rw [World.size_alloc] at r1
      have y1 := (h1.block _ (by simp)).trans (HB.out w).1
      have b1 := (HB.out w).2.trans (h1.mono (by simp))
      go_wp2_with fail
      refine (HR.out _ _ r1).mono ?_
      rintro en w2 ⟨rfl, g2, r2, hs2⟩
      have hr1 := r1.lt
      have y2 := gr_keep g2 y1 (by omega)
      have b2 : Below w.heap.size w w2 := b1.trans ⟨g2.os, g2.tape, g2.output, g2.size, fun k hk => g2.block k (by have := b1.size; omega) (fun e => by injection e with e; omega)⟩
      have y3 := alloc_keep (p := .cells #[.int .i64 k, .int .i64 i, .int .i64 m, .int .i64 o, .int .i64 sc, .int .i64 q, .int .i64 p] 23) y2
      have c3 : CB (w2.alloc (.cells #[.int .i64 k, .int .i64 i, .int .i64 m, .int .i64 o, .int .i64 sc, .int .i64 q, .int .i64 p] 23)) w2.heap.size ⟨k, i, m, o, sc, q, p⟩ := (boxes1 w2 _).1
      have b3 : Below w.heap.size w (w2.alloc (.cells #[.int .i64 k, .int .i64 i, .int .i64 m, .int .i64 o, .int .i64 sc, .int .i64 q, .int .i64 p] 23)) := b2.alloc b2.size _
      have r3 := r2.below (boxes1 w2 (.cells #[.int .i64 k, .int .i64 i, .int .i64 m, .int .i64 o, .int .i64 sc, .int .i64 q, .int .i64 p] 23)).2
      have HE := Lib.hid (end_any _ _ _ _ r3 hs2)
      rw [← HG'.out] at HE
      obtain ⟨k0, k1, k2, k3, k4, k5, k6⟩ := c3.cells
      obtain ⟨q0, q1, q2, q3, q4, q5, q6⟩ := seven_cells y3
      have F := seven_free y3
      have f0 := F 0
      have f1 := F 1
      have f2 := F 2
      have f3 := F 3
      have f4 := F 4
      have f5 := F 5
      have f6 := F 6
      have XG := Lib.hid (seven_set y3 (.int .i64 k) (.int .i64 i) (.int .i64 m) (.int .i64 o) (.int .i64 sc) (.int .i64 q) (.int .i64 p))
      have XZ := Lib.hid (seven_set y3 (.int .i64 0) (.int .i64 0) (.int .i64 0) (.int .i64 0) (.int .i64 0) (.int .i64 0) (.int .i64 0))
      have B3 := Lib.hid b3
      clear F y1 y2 y3 b1 b2 b3 c3 g2 r1 r2 r3 h1 hr1 hs2 HB HG'
      go_wp2_with fail
      refine HE.out.mono ?_
      rintro en w3 ⟨rfl, rfl⟩
      go_wp2_with fail
      obtain ⟨z0, z1, z2, z3, z4, z5, z6⟩ := seven_cells XG.out
      refine bodyPost_ret (v := .tuple #[.agg #[.int .i64 k, .int .i64 i, .int .i64 m, .int .i64 o, .int .i64 sc, .int .i64 q, .int .i64 p], .int .i64 0]) (by simp [results, Try.results12, go_sem, z0, z1, z2, z3, z4, z5, z6]) rfl ?_
      exact ⟨rfl, (((((((B3.out).setCell (by exact Nat.le_refl _) _).setCell (by exact Nat.le_refl _) _).setCell (by exact Nat.le_refl _) _).setCell (by exact Nat.le_refl _) _).setCell (by exact Nat.le_refl _) _).setCell (by exact Nat.le_refl _) _).setCell (by exact Nat.le_refl _) _⟩
    · rw [if_neg hz]
      have d1 : (E == 0) = false := by simp [hz]
      have d2 : (E != 0) = true := by simp [hz]
      go_enter Try.func12, Try.ntmps12
      go_wp2_with fail
      refine (HN.out _).mono ?_
      rintro en w1 ⟨rfl, h1, r1⟩
      rw [World.size_alloc] at r1
      have y1 := (h1.block _ (by simp)).trans (HB.out w).1
      have b1 := (HB.out w).2.trans (h1.mono (by simp))
      go_wp2_with fail
      refine (HR.out _ _ r1).mono ?_
      rintro en w2 ⟨rfl, g2, r2, hs2⟩
      have hr1 := r1.lt
      have y2 := gr_keep g2 y1 (by omega)
      have b2 : Below w.heap.size w w2 := b1.trans ⟨g2.os, g2.tape, g2.output, g2.size, fun k hk => g2.block k (by have := b1.size; omega) (fun e => by injection e with e; omega)⟩
      have y3 := alloc_keep (p := .cells #[.int .i64 k, .int .i64 i, .int .i64 m, .int .i64 o, .int .i64 sc, .int .i64 q, .int .i64 p] 23) y2
      have c3 : CB (w2.alloc (.cells #[.int .i64 k, .int .i64 i, .int .i64 m, .int .i64 o, .int .i64 sc, .int .i64 q, .int .i64 p] 23)) w2.heap.size ⟨k, i, m, o, sc, q, p⟩ := (boxes1 w2 _).1
      have b3 : Below w.heap.size w (w2.alloc (.cells #[.int .i64 k, .int .i64 i, .int .i64 m, .int .i64 o, .int .i64 sc, .int .i64 q, .int .i64 p] 23)) := b2.alloc b2.size _
      have r3 := r2.below (boxes1 w2 (.cells #[.int .i64 k, .int .i64 i, .int .i64 m, .int .i64 o, .int .i64 sc, .int .i64 q, .int .i64 p] 23)).2
      have HE := Lib.hid (end_any _ _ _ _ r3 hs2)
      rw [← HG'.out] at HE
      obtain ⟨k0, k1, k2, k3, k4, k5, k6⟩ := c3.cells
      obtain ⟨q0, q1, q2, q3, q4, q5, q6⟩ := seven_cells y3
      have F := seven_free y3
      have f0 := F 0
      have f1 := F 1
      have f2 := F 2
      have f3 := F 3
      have f4 := F 4
      have f5 := F 5
      have f6 := F 6
      have XG := Lib.hid (seven_set y3 (.int .i64 k) (.int .i64 i) (.int .i64 m) (.int .i64 o) (.int .i64 sc) (.int .i64 q) (.int .i64 p))
      have XZ := Lib.hid (seven_set y3 (.int .i64 0) (.int .i64 0) (.int .i64 0) (.int .i64 0) (.int .i64 0) (.int .i64 0) (.int .i64 0))
      have B3 := Lib.hid b3
      clear F y1 y2 y3 b1 b2 b3 c3 g2 r1 r2 r3 h1 hr1 hs2 HB HG'
      go_wp2_with fail
      refine HE.out.mono ?_
      rintro en w3 ⟨rfl, rfl⟩
      go_wp2_with fail
      obtain ⟨z0, z1, z2, z3, z4, z5, z6⟩ := seven_cells XZ.out
      refine bodyPost_ret (v := .tuple #[cmv zeroC, .int .i64 E]) (by simp [results, Try.results12, go_sem, z0, z1, z2, z3, z4, z5, z6, zeroC]) rfl ?_
      exact ⟨rfl, (((((((B3.out).setCell (by exact Nat.le_refl _) _).setCell (by exact Nat.le_refl _) _).setCell (by exact Nat.le_refl _) _).setCell (by exact Nat.le_refl _) _).setCell (by exact Nat.le_refl _) _).setCell (by exact Nat.le_refl _) _).setCell (by exact Nat.le_refl _) _⟩
  · have hE3 : E = e2 := by rw [HG.out, if_neg h2]
    subst hE3
    rw [if_neg h2]
    have d1 : (E == 0) = false := by simp [h2]
    have d2 : (E != 0) = true := by simp [h2]
    clear hR hE HV HG hs h2 hE2
    go_enter Try.func12, Try.ntmps12
    go_wp2_with fail
    refine (HN.out _).mono ?_
    rintro en w1 ⟨rfl, h1, r1⟩
    rw [World.size_alloc] at r1
    have y1 := (h1.block _ (by simp)).trans (HB.out w).1
    have b1 := (HB.out w).2.trans (h1.mono (by simp))
    go_wp2_with fail
    refine (HR.out _ _ r1).mono ?_
    rintro en w2 ⟨rfl, g2, r2, hs2⟩
    have y2 := gr_keep g2 y1 (by omega)
    have b2 : Below w.heap.size w w2 := b1.trans ⟨g2.os, g2.tape, g2.output, g2.size, fun k hk => g2.block k (by have := b1.size; omega) (fun e => by injection e with e; omega)⟩
    have y3 := alloc_keep (p := .cells #[.int .i64 k, .int .i64 i, .int .i64 m, .int .i64 o, .int .i64 sc, .int .i64 q, .int .i64 p] 23) y2
    have b3 : Below w.heap.size w (w2.alloc (.cells #[.int .i64 k, .int .i64 i, .int .i64 m, .int .i64 o, .int .i64 sc, .int .i64 q, .int .i64 p] 23)) := b2.alloc b2.size _
    obtain ⟨q0, q1, q2, q3, q4, q5, q6⟩ := seven_cells y3
    have F := seven_free y3
    have f0 := F 0
    have f1 := F 1
    have f2 := F 2
    have f3 := F 3
    have f4 := F 4
    have f5 := F 5
    have f6 := F 6
    have XZ := Lib.hid (seven_set y3 (.int .i64 0) (.int .i64 0) (.int .i64 0) (.int .i64 0) (.int .i64 0) (.int .i64 0) (.int .i64 0))
    have B3 := Lib.hid b3
    clear F y1 y2 y3 b1 b2 b3 g2 r1 r2 h1 hs2 HB
    go_wp2_with fail
    obtain ⟨z0, z1, z2, z3, z4, z5, z6⟩ := seven_cells XZ.out
    refine bodyPost_ret (v := .tuple #[cmv zeroC, .int .i64 E]) (by simp [results, Try.results12, go_sem, z0, z1, z2, z3, z4, z5, z6, zeroC]) rfl ?_
    exact ⟨rfl, (((((((B3.out).setCell (by exact Nat.le_refl _) _).setCell (by exact Nat.le_refl _) _).setCell (by exact Nat.le_refl _) _).setCell (by exact Nat.le_refl _) _).setCell (by exact Nat.le_refl _) _).setCell (by exact Nat.le_refl _) _).setCell (by exact Nat.le_refl _) _⟩
end Go.Proofs.Ytbpaongnehgodaa
