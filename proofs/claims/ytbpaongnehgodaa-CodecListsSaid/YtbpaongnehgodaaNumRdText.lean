/- Readers: Text; the document's reader. -/
import Derived.Test.YtbpaongnehgodaaNumRead
namespace Go.Proofs.Ytbpaongnehgodaa
open Go.ChangeShapes Go.WideShapes Go.ChangeAt Go.RowKit
/-- What reading a text tells, and what is left, and the first error. -/
def textV (most : Int) (s : ByteArray) (e : Int) : ByteArray × ByteArray × Int :=
  if (readV (textM most) s e).1 = 0 then (⟨#[]⟩, (readV (textM most) s e).2.1, (readV (textM most) s e).2.2)
  else ((readV (textM most) s e).2.1.extract 0 (readV (textM most) s e).1.toNat, (readV (textM most) s e).2.1.extract (readV (textM most) s e).1.toNat (readV (textM most) s e).2.1.size, (readV (textM most) s e).2.2)
theorem textM_zero {most n : Int} {s : ByteArray} (h : textM most n s = 0) : 0 ≤ n ∧ n ≤ s.size := by
  unfold textM at h
  by_cases h1 : uptoM most n = 0
  · rw [if_pos h1] at h
    by_cases h2 : (s.size : Int) < n
    · rw [if_pos h2] at h
      exact absurd h (by decide)
    · unfold uptoM at h1
      by_cases h3 : n < 0 ∨ most < n
      · rw [if_pos h3] at h1
        exact absurd h1 (by decide)
      · omega
  · rw [if_neg h1] at h
    exact absurd h h1
theorem readV_text {most : Int} {s : ByteArray} {e : Int} (h : (readV (textM most) s e).1 ≠ 0) : 0 < (readV (textM most) s e).1 ∧ (readV (textM most) s e).1 ≤ (readV (textM most) s e).2.1.size := by
  unfold readV at *
  split at h
  · exact absurd rfl h
  · rename_i he
    rw [if_neg he]
    split at h
    · exact absurd rfl h
    · exact absurd rfl h
    · rename_i v m hv
      split at h
      · rename_i hm
        rw [if_pos hm]
        simp only [] at h ⊢
        have := textM_zero hm
        omega
      · exact absurd rfl h
theorem readV_size (may : Int → ByteArray → Int) (s : ByteArray) (e : Int) : (readV may s e).2.1.size ≤ s.size := by
  unfold readV
  split
  · exact Nat.le_refl _
  · split
    · exact Nat.le_refl _
    · exact Nat.le_refl _
    · split
      · exact extract_le _ _
      · exact Nat.le_refl _
theorem readV_in (may : Int → ByteArray → Int) (s : ByteArray) (e : Int) : -9223372036854775808 ≤ (readV may s e).1 ∧ (readV may s e).1 ≤ 9223372036854775807 := by
  unfold readV
  split
  · exact show (-9223372036854775808 : Int) ≤ 0 ∧ (0 : Int) ≤ 9223372036854775807 from ⟨by decide, by decide⟩
  · split
    · exact show (-9223372036854775808 : Int) ≤ 0 ∧ (0 : Int) ≤ 9223372036854775807 from ⟨by decide, by decide⟩
    · exact show (-9223372036854775808 : Int) ≤ 0 ∧ (0 : Int) ≤ 9223372036854775807 from ⟨by decide, by decide⟩
    · rename_i v m hv
      split
      · have := (enc_getR s.data.toList 0 v m (by decide) hv).2.1
        exact numN_in (by omega)
      · exact show (-9223372036854775808 : Int) ≤ 0 ∧ (0 : Int) ≤ 9223372036854775807 from ⟨by decide, by decide⟩
/-- What the document's End tells is what End tells. -/
theorem readV_split (may : Int → ByteArray → Int) (s : ByteArray) (e : Int) : readV may s e =
    if (readV (fun _ _ => 0) s e).2.2 = 0 then (if may (readV (fun _ _ => 0) s e).1 (readV (fun _ _ => 0) s e).2.1 = 0 then readV (fun _ _ => 0) s e else (0, s, may (readV (fun _ _ => 0) s e).1 (readV (fun _ _ => 0) s e).2.1)) else readV (fun _ _ => 0) s e := by
  unfold readV
  by_cases he : e ≠ 0
  · rw [if_pos he, if_pos he]
    simp only []
    rw [if_neg he]
  · rw [if_neg he, if_neg he]
    split
    · simp
    · simp
    · simp
theorem empty_of_size {s : ByteArray} (h : ¬ 0 < s.size) : s = ⟨#[]⟩ := by
  apply ByteArray.ext
  apply Array.eq_empty_of_size_eq_zero
  have : s.data.size = s.size := rfl
  omega
theorem extract_none (s : ByteArray) : s.extract 0 0 = ⟨#[]⟩ := empty_of_size (by rw [ByteArray.size_extract]; omega)
theorem extract_all (s : ByteArray) : s.extract 0 s.size = s := by
  have e : s.size = s.data.size := rfl
  rw [e]
  apply ByteArray.ext
  apply Array.ext'
  rw [ByteArray.data_extract]
  simp
  exact List.take_of_length_le (by simp)
theorem refnew (s : ByteArray) (w : World) : RAt 60 (w.alloc (.cells #[.string s, .int .i64 0] 60)) w.heap.size s 0 := RAt.new _ _ _
set_option maxHeartbeats 1000000 in
theorem refnum_any (g : Nat) (s : ByteArray) (e : Int) (hs : s.size ≤ 1000000) (w : World) (hR : RAt 60 w g s e) :
    Calls Try.prog 44 #[ptr g] w (Reads 60 g w (.int .i64 (readV (fun _ _ => 0) s e).1) (readV (fun _ _ => 0) s e).2.1 (readV (fun _ _ => 0) s e).2.2) := by
  have c0 := hR.c0
  have c1 := hR.c1
  have f0 := hR.f 0
  have f1 := hR.f 1
  have HR := Lib.hid hR
  by_cases he : e = 0
  · subst he
    have HG := Lib.hid (refget_any s hs w)
    obtain ⟨G, hG⟩ : ∃ G, getR 0 s.data.toList = G := ⟨_, rfl⟩
    rw [hG] at HG
    cases G with
    | short =>
      have HV : Hid (readV (fun _ _ => 0) s 0 = (0, s, 4)) := by show _ = _; unfold readV; rw [if_neg (by simp), hG]
      unfold refV at HG
      clear hG hs hR
      go_enter Try.func44, Try.ntmps44
      go_wp2_with fail
      refine HG.out.mono ?_
      rintro e w1 ⟨rfl, rfl⟩
      go_wp2
      go_ret
      rw [HV.out]
      exact ⟨rfl, gr_set (gr_refl _ _) _ _, HR.out.set1 4⟩
    | form =>
      have HV : Hid (readV (fun _ _ => 0) s 0 = (0, s, 3)) := by show _ = _; unfold readV; rw [if_neg (by simp), hG]
      unfold refV at HG
      clear hG hs hR
      go_enter Try.func44, Try.ntmps44
      go_wp2_with fail
      refine HG.out.mono ?_
      rintro e w1 ⟨rfl, rfl⟩
      go_wp2
      go_ret
      rw [HV.out]
      exact ⟨rfl, gr_set (gr_refl _ _) _ _, HR.out.set1 3⟩
    | ok v m =>
      have HV : Hid (readV (fun _ _ => 0) s 0 = (numN v, s.extract m s.size, 0)) := by show _ = _; unfold readV; rw [if_neg (by simp), hG]; simp
      have HGV : Hid (Calls Try.prog 49 #[.string s] w (RetS (.tuple #[.int .i64 (numN v), .int .i64 (m : Nat), .int .i64 0]) w)) := HG.out
      have hm : m ≤ s.size := by have := (enc_getR s.data.toList 0 v m (by decide) hG).2.2.2.1; simpa using this
      have hm2 : (m : Int) ≤ s.size := by omega
      have hs2 : (s.size : Int) ≤ 1000000 := by omega
      clear hG hs hR HG
      generalize numN v = x at *
      go_enter Try.func44, Try.ntmps44
      go_wp2_with fail
      refine HGV.out.mono ?_
      rintro e w1 ⟨rfl, rfl⟩
      go_wp2
      go_ret
      rw [HV.out]
      exact ⟨rfl, gr_set (gr_refl _ _) _ _, HR.out.set0 _⟩
  · have d : (e == 0) = false := by rw [beq_eq_false_iff_ne]; exact he
    have d' : (e != 0) = true := by simp [bne, d]
    have HV : Hid (readV (fun _ _ => 0) s e = (0, s, e)) := by show _ = _; unfold readV; rw [if_pos he]
    clear he hs hR
    go_enter Try.func44, Try.ntmps44
    go_wp2
    go_ret
    rw [HV.out]
    exact ⟨rfl, gr_refl _ _, HR.out⟩
set_option maxHeartbeats 1000000 in
theorem refupto_any (most : Int) (g : Nat) (s : ByteArray) (e : Int) (hs : s.size ≤ 1000000) (w : World) (hR : RAt 60 w g s e) :
    Calls Try.prog 38 #[ptr g, .int .i64 most] w (Reads 60 g w (.int .i64 (readV (fun n _ => uptoM most n) s e).1) (readV (fun n _ => uptoM most n) s e).2.1 (readV (fun n _ => uptoM most n) s e).2.2) := by
  have HN := Lib.hid (refnum_any g s e hs w hR)
  have hsp := readV_split (fun n _ => uptoM most n) s e
  rw [hsp]
  obtain ⟨r, hr⟩ : ∃ r, readV (fun _ _ => 0) s e = r := ⟨_, rfl⟩
  rw [hr] at HN ⊢
  obtain ⟨n, t, u⟩ := r
  simp only [] at HN ⊢
  have c0 := hR.c0
  clear hsp hr hR hs
  by_cases hu : u = 0
  · subst hu
    rw [if_pos rfl]
    by_cases h0 : n < 0
    · rw [show uptoM most n = 3 from by unfold uptoM; rw [if_pos (Or.inl h0)], if_neg (by decide)]
      have d := decide_eq_true h0
      clear h0
      go_enter Try.func38, Try.ntmps38
      go_wp2_with fail
      refine HN.out.mono ?_
      rintro e' w1 ⟨rfl, h1, h2⟩
      have H1 := Lib.hid h1
      have c0' := h2.c0
      have c1' := h2.c1
      have f0 := h2.f 0
      have f1 := h2.f 1
      have H2 := Lib.hid h2
      clear h1 h2 c0
      go_wp2
      go_ret
      exact ⟨rfl, gr_set (gr_set H1.out _ _) _ _, (H2.out.set0 s).set1 3⟩
    · have d := decide_eq_false h0
      by_cases h9 : most < n
      · rw [show uptoM most n = 3 from by unfold uptoM; rw [if_pos (Or.inr h9)], if_neg (by decide)]
        have d1 := decide_eq_true h9
        clear h0 h9
        go_enter Try.func38, Try.ntmps38
        go_wp2_with fail
        refine HN.out.mono ?_
        rintro e' w1 ⟨rfl, h1, h2⟩
        have H1 := Lib.hid h1
        have c0' := h2.c0
        have c1' := h2.c1
        have f0 := h2.f 0
        have f1 := h2.f 1
        have H2 := Lib.hid h2
        clear h1 h2 c0
        go_wp2
        go_ret
        exact ⟨rfl, gr_set (gr_set H1.out _ _) _ _, (H2.out.set0 s).set1 3⟩
      · rw [show uptoM most n = 0 from by unfold uptoM; rw [if_neg (by omega)], if_pos rfl]
        have d1 := decide_eq_false h9
        clear h0 h9
        go_enter Try.func38, Try.ntmps38
        go_wp2_with fail
        refine HN.out.mono ?_
        rintro e' w1 ⟨rfl, h1, h2⟩
        have H1 := Lib.hid h1
        have c0' := h2.c0
        have c1' := h2.c1
        have H2 := Lib.hid h2
        clear h1 h2 c0
        go_wp2
        go_ret
        exact ⟨rfl, H1.out, H2.out⟩
  · rw [if_neg hu]
    have d : (u == 0) = false := by rw [beq_eq_false_iff_ne]; exact hu
    clear hu
    go_enter Try.func38, Try.ntmps38
    go_wp2_with fail
    refine HN.out.mono ?_
    rintro e' w1 ⟨rfl, h1, h2⟩
    have H1 := Lib.hid h1
    have c0' := h2.c0
    have c1' := h2.c1
    have H2 := Lib.hid h2
    clear h1 h2 c0
    go_wp2
    go_ret
    exact ⟨rfl, H1.out, H2.out⟩
end Go.Proofs.Ytbpaongnehgodaa
