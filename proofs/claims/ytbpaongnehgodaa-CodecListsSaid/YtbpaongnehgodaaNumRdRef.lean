/- The document's reader: Text, End. -/
import Derived.Test.YtbpaongnehgodaaNumRdText
namespace Go.Proofs.Ytbpaongnehgodaa
open Go.ChangeShapes Go.WideShapes Go.ChangeAt Go.RowKit
theorem textV_split (most : Int) (s : ByteArray) (e : Int) : textV most s e =
    if (readV (fun n _ => uptoM most n) s e).2.2 ≠ 0 then (⟨#[]⟩, (readV (fun n _ => uptoM most n) s e).2.1, (readV (fun n _ => uptoM most n) s e).2.2)
    else if ((readV (fun n _ => uptoM most n) s e).2.1.size : Int) < (readV (fun n _ => uptoM most n) s e).1 then (⟨#[]⟩, s, 4)
    else ((readV (fun n _ => uptoM most n) s e).2.1.extract 0 (readV (fun n _ => uptoM most n) s e).1.toNat, (readV (fun n _ => uptoM most n) s e).2.1.extract (readV (fun n _ => uptoM most n) s e).1.toNat (readV (fun n _ => uptoM most n) s e).2.1.size, (readV (fun n _ => uptoM most n) s e).2.2) := by
  unfold textV
  rw [readV_split (textM most), readV_split (fun n _ => uptoM most n)]
  obtain ⟨r, hr⟩ : ∃ r, readV (fun _ _ => 0) s e = r := ⟨_, rfl⟩
  rw [hr]
  obtain ⟨n, t, u⟩ := r
  simp only []
  by_cases hu : u = 0
  · rw [if_pos hu, if_pos hu]
    by_cases h1 : uptoM most n = 0
    · rw [if_pos h1]
      by_cases h2 : (t.size : Int) < n
      · have ht : textM most n t = 4 := by unfold textM; rw [if_pos h1, if_pos h2]
        rw [ht]
        simp [hu, h2]
      · have ht : textM most n t = 0 := by unfold textM; rw [if_pos h1, if_neg h2]
        rw [ht, if_pos rfl]
        simp only [hu, h2]
        by_cases h0 : n = 0
        · subst h0
          simp
          rfl
        · simp [h0]
    · have ht : textM most n t = uptoM most n := by unfold textM; rw [if_neg h1]
      rw [ht, if_neg h1]
      simp [h1]
  · rw [if_neg hu, if_neg hu]
    have hn : n = 0 := by
      have := congrArg (fun r => r.2.2) hr
      unfold readV at hr
      split at hr
      · cases hr; rfl
      · split at hr
        · cases hr; rfl
        · cases hr; rfl
        · simp at hr
          exact absurd hr.2.2.symm hu
    simp [hn, hu]
theorem uptoV_in {most : Int} {s : ByteArray} {e : Int} (h : (readV (fun n _ => uptoM most n) s e).2.2 = 0) (he : e = 0) : 0 ≤ (readV (fun n _ => uptoM most n) s e).1 := by
  unfold readV at *
  rw [if_neg (by simp [he])] at *
  split at h
  · exact Int.le_refl 0
  · exact Int.le_refl 0
  · split at h
    · rename_i v m hv hm
      rw [if_pos hm]
      simp only [] at hm ⊢
      unfold uptoM at hm
      split at hm
      · exact absurd hm (by decide)
      · omega
    · rename_i hm
      rw [if_neg hm]
      exact Int.le_refl 0
theorem uptoV_err {most : Int} {s : ByteArray} {e : Int} (he : e ≠ 0) : (readV (fun n _ => uptoM most n) s e).2.2 ≠ 0 := by
  unfold readV
  rw [if_pos he]
  exact he
theorem loop_len (bs : ByteArray) : ∀ (n i : Nat) (r : List UInt8), bs.size - i = n → (ByteArray.toList.loop bs i r).length = r.length + n
  | 0, i, r, h => by rw [ByteArray.toList.loop, if_neg (by omega)]; simp
  | n + 1, i, r, h => by
    rw [ByteArray.toList.loop, if_pos (by omega), loop_len bs n (i + 1) _ (by omega)]
    simp
    omega
theorem toList_some {s : ByteArray} (h : 0 < s.size) : s.toList.isEmpty = false := by
  have := loop_len s s.size 0 [] rfl
  rw [List.isEmpty_eq_false_iff]
  intro e
  unfold ByteArray.toList at e
  rw [e] at this
  simp at this
  omega
theorem refend_any (g : Nat) (s : ByteArray) (e : Int) (w : World) (h : RAt 60 w g s e) :
    Calls Try.prog 35 #[ptr g] w (RetS (.int .i64 (endV s e)) w) := by
  have c0 := h.c0
  have c1 := h.c1
  clear h
  by_cases he : e = 0
  · subst he
    by_cases hz : 0 < s.size
    · have HV : Hid (endV s 0 = 3) := by show _ = _; unfold endV; rw [if_neg (by simp), if_pos hz]
      have d := toList_some hz
      clear hz
      go_enter Try.func35, Try.ntmps35
      go_wp2
      go_ret
      exact ⟨by rw [HV.out]; rfl, rfl⟩
    · have HV : Hid (endV s 0 = 0) := by show _ = _; unfold endV; rw [if_neg (by simp), if_neg hz]
      obtain rfl := empty_of_size hz
      clear hz
      go_enter Try.func35, Try.ntmps35
      go_wp2
      go_ret
      exact ⟨by rw [HV.out]; rfl, rfl⟩
  · have d : (e == 0) = false := by rw [beq_eq_false_iff_ne]; exact he
    have HV : Hid (endV s e = e) := by show _ = _; unfold endV; rw [if_pos he]
    clear he
    go_enter Try.func35, Try.ntmps35
    go_wp2
    go_ret
    exact ⟨by rw [HV.out]; rfl, rfl⟩
end Go.Proofs.Ytbpaongnehgodaa
