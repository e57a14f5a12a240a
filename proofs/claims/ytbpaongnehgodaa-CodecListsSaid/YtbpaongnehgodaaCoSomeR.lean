/- The document's Some, walked. -/
import Derived.Test.YtbpaongnehgodaaCoSomeF
namespace Go.Proofs.Ytbpaongnehgodaa
open Go.ChangeShapes Go.WideShapes Go.ChangeAt Go.RowKit
theorem upT_err {s : ByteArray} (h : (upT s).2.2 ≠ 0) : (upT s).1 = 0 := by
  unfold upT readV at *
  rw [if_neg (by simp)] at *
  split
  · rfl
  · rfl
  · split
    · rename_i v m hv hm
      rw [hv] at h
      simp only [] at h hm
      rw [if_pos hm] at h
      exact absurd rfl h
    · rfl
theorem refend_h {g : Nat} {s : ByteArray} {e : Int} {w : World} (h : RAt 60 w g s e) : Calls Try.prog 35 #[ptr g] w (RetS (.int .i64 (endV s e)) w) := refend_any g s e w h
theorem news_at1 (w3 : World) (c : Cm) : ∀ j u, (cms [c])[j]? = some u → ((w3.alloc (.cells #[.int .i64 c.k, .int .i64 c.i, .int .i64 c.m, .int .i64 c.o, .int .i64 c.s, .int .i64 c.q, .int .i64 c.p] 23)).cell? ((⟨w3.heap.size, 0, none⟩ : Addr).add j)) = some u := fun j u hu => by
  rw [add_g]
  have hb := (boxes1 w3 (.cells #[.int .i64 c.k, .int .i64 c.i, .int .i64 c.m, .int .i64 c.o, .int .i64 c.s, .int .i64 c.q, .int .i64 c.p] 23)).1
  simp only [World.cell?, hb]
  simpa [cms] using hu
/-- The end of Some, whatever was read. -/
def fate (s : ByteArray) (l : List Cm) (E : Int) : Prop := (E ≠ 0 ∧ someA s = .inl E) ∨ (E = 0 ∧ someA s = .inr l)
set_option maxHeartbeats 8000000 in
theorem rsome_any (s : ByteArray) (hs : s.size ≤ 1000000) (w : World) : Calls Try.prog 19 #[.string s] w (SomeP s w) := by
  have HU := Lib.hid (fun W (h : RAt 60 W w.heap.size s 0) => refupto_any 1024 w.heap.size s 0 hs W h)
  have HUS : Hid ((upT s).2.1.size ≤ 1000000) := Nat.le_trans (readV_size _ s 0) hs
  have hin := upT_in s
  have HSR : Hid (someR s = someN (upT s).1.toNat (upT s).2 []) := rfl
  have HUE := @upT_err s
  have eU : readV (fun n _ => uptoM 1024 n) s 0 = upT s := rfl
  rw [eU] at HU
  obtain ⟨U, hU⟩ : ∃ U, upT s = U := ⟨_, rfl⟩
  rw [hU] at HU HUS hin HSR HUE
  obtain ⟨n, x0⟩ := U
  simp only [] at HU HUS hin HSR HUE
  obtain ⟨N, rfl⟩ : ∃ N : Nat, n = (N : Int) := ⟨n.toNat, by omega⟩
  rw [Int.toNat_natCast] at HSR
  have hN : (N : Int) ≤ 1024 := hin.2
  have HU0 : Hid (0 < N → x0.2 = 0) := fun h => Classical.byContradiction fun hne => by have := HUE hne; omega
  have HRD := Lib.hid (fun (s : ByteArray) (e : Int) (hs : s.size ≤ 1000000) W (h : RAt 60 W w.heap.size s e) => rread_any w.heap.size s e hs W h)
  obtain ⟨i0, hinf, hz0, hz1, hz2⟩ := info_parts infoCm
  have R1 := Lib.hid (boxes1 w (.cells #[.string s, .int .i64 0] 60)).1
  have B1 := Lib.hid (boxes1 w (.cells #[.string s, .int .i64 0] 60)).2
  clear hU eU hin HUE
  go_enter Try.func19, Try.ntmps19
  go_wp2_with fail
  refine (HU.out _ R1.out).mono ?_
  rintro en w2 ⟨rfl, g2, r2⟩
  have B2 := Lib.hid (below_gr B1.out (Nat.le_refl _) g2)
  have R2 := Lib.hid r2
  clear g2 r2
  go_wp2_with fail
  go_loopw [6, 7] (fun lv iv wr => ∃ (k : Nat) (l : List Cm) (x : ByteArray × Int), k ≤ N ∧ iv = .int .i64 k ∧ l.length = k ∧ wr.ownsRow w.heap.size 23 7 lv l.length (cms l) ∧ RAt 60 wr w.heap.size x.1 x.2 ∧ Below w.heap.size w wr ∧ x.1.size ≤ 1000000 ∧ ((someR s = someN (N - k) x l ∧ (k < N → x.2 = 0)) ∨ (x.2 ≠ 0 ∧ someR s = .inl x.2))) (fun _ iv _ => N - (intOf iv).toNat)
  case atStart => exact ⟨0, [], x0, Nat.zero_le _, rfl, rfl, World.ownsRow_nil _ _ _ _, R2.out, B2.out, HUS.out, Or.inl ⟨HSR.out, HU0.out⟩⟩
  case round =>
    obtain ⟨k, l, ⟨sk, ek⟩, hk, rfl, hlk, hown, hrt, hbel, hsz, hst⟩ := hrel
    subst hlk
    simp only [] at hrt hsz hst
    have hk2 : (l.length : Int) ≤ N := by omega
    obtain ⟨ao, cap, rfl⟩ := row_view hown
    have HB := Lib.hid hbel
    have HO := Lib.hid hown
    have HR := Lib.hid hrt
    have q0 := hrt.c0
    have q1 := hrt.c1
    by_cases hgo : l.length < N ∧ ek = 0
    · obtain ⟨hlt, rfl⟩ := hgo
      have hlt2 : (l.length : Int) < N := by omega
      have HLT := Lib.hid hlt
      have hsome : someR s = someN (N - l.length) (sk, 0) l := by
        rcases hst with h | h
        · exact h.1
        · exact absurd rfl h.1
      have HC := Lib.hid (HRD.out sk 0 hsz wr hrt)
      have HSU : Hid (someR s = if (readC sk 0).2.2 ≠ 0 then .inl (readC sk 0).2.2 else someN (N - (l.length + 1)) (readC sk 0).2.1 (l ++ [(readC sk 0).1])) := by
        show _ = _
        rw [hsome, show N - l.length = (N - (l.length + 1)) + 1 by omega]
        rfl
      have HNX : Hid ((someR s = someN (N - (l.length + 1)) (rrC sk 0).2 (l ++ [(rrC sk 0).1]) ∧ (l.length + 1 < N → (rrC sk 0).2.2 = 0)) ∨ ((rrC sk 0).2.2 ≠ 0 ∧ someR s = .inl (rrC sk 0).2.2)) := by
        by_cases he : (readC sk 0).2.2 = 0
        · left
          have e1 : rrC sk 0 = ((readC sk 0).1, (readC sk 0).2.1) := by
            unfold rrC
            rw [if_pos he]
            exact Prod.ext rfl (Prod.ext rfl (he.trans (read_back sk 0 he).2.1.symm))
          rw [e1]
          refine ⟨?_, fun _ => (read_back sk 0 he).2.1⟩
          rw [HSU.out, if_neg (by simp [he])]
        · right
          exact ⟨he, by rw [HSU.out, if_pos he]; rfl⟩
      obtain ⟨⟨c, x1⟩, hR⟩ : ∃ R, rrC sk 0 = R := ⟨_, rfl⟩
      rw [hR] at HC HNX
      simp only [] at HC HNX
      have hl63 : l.length + 1 ≤ 2000 := by omega
      clear HSU hsome hst hrt hbel hown hR hsz hk hlt
      go_wp2_with fail
      refine HC.out.mono ?_
      rintro en w3 ⟨rfl, g3, r3, s3⟩
      have HB3 := Lib.hid (below_gr HB.out (Nat.le_refl _) g3)
      have HR3 := Lib.hid r3
      have HS3 := Lib.hid s3
      have HO3 : Hid (w3.ownsRow w.heap.size 23 7 (.slice ao l.length cap) l.length (cms l)) := World.ownsRow.kept HO.out g3 (Or.inr (rat_row HO.out HR.out (by decide)))
      clear g3 r3 s3
      have hbase : w.heap.size ≤ w3.heap.size := HB3.out.size
      go_wp2_with (at_builtin; refine wpList_append_lies _ rfl _ _ 34 rfl w.heap.size 23 i0 (.agg #[.int .i64 0, .int .i64 0, .int .i64 0, .int .i64 0, .int .i64 0, .int .i64 0, .int .i64 0]) 7 56 Try.underlying34 hinf hz0 hz1 hz2 rfl (by decide) _ l.length (cms l) rfl (HO3.out.alloc _) ⟨w3.heap.size, 0, none⟩ 1 1 (cms [c]) rfl rfl ?a1 ?a2 (by decide) ?a3 ?a4 ?a5 _ rfl ?_)
      case a1 => exact news_at1 w3 c
      case a2 => exact news_one c
      case a3 => unfold maxLen; omega
      case a4 => omega
      case a5 => simp; omega
      intro g5 cp5 w5 hown5 hgrow5 _ _
      have HX : Hid (w5.ownsRow w.heap.size 23 7 (.slice (some ⟨g5, 0, none⟩) (l.length + 1) cp5) (l ++ [c]).length (cms (l ++ [c]))) := by
        rw [cms_append, List.length_append]; exact hown5
      have HR5 : Hid (RAt 60 w5 w.heap.size x1.1 x1.2) := (hgrow5.block _ (by have := HR3.out.lt; simp; omega) (fun e => rat_row HO3.out HR3.out (by decide) e.symm)).trans (alloc_keep HR3.out)
      have HB5 : Hid (Below w.heap.size w w5) := (HB3.out.alloc hbase _).grown hgrow5 (by simp; omega) (fun k' hk' => (World.ownsRow.lt HO3.out k' hk').1)
      clear hown5 hgrow5 hbase
      go_wp2_with fail
      go_roundw
      case rel => exact ⟨l.length + 1, l ++ [c], x1, by have := HLT.out; omega, by go_num, by simp, HX.out, HR5.out, HB5.out, HS3.out, HNX.out⟩
      case measure => have := HLT.out; simp [intOf]; omega
    · have HE := Lib.hid (refend_h hrt)
      have HF : Hid (fate s l (endV sk ek)) := by
        show fate s l (endV sk ek)
        rcases hst with ⟨h1, h2⟩ | ⟨h1, h2⟩
        · have hz : N - l.length = 0 := by
            rcases Nat.lt_or_ge l.length N with h | h
            · exact absurd ⟨h, h2 h⟩ hgo
            · omega
          have e : someA s = if endV sk ek ≠ 0 then .inl (endV sk ek) else .inr l := by
            unfold someA
            rw [h1, hz]
            rfl
          by_cases hE : endV sk ek = 0
          · exact Or.inr ⟨hE, by rw [e, if_neg (by simp [hE])]⟩
          · exact Or.inl ⟨hE, by rw [e, if_pos hE]⟩
        · have hE : endV sk ek = ek := by unfold endV; rw [if_pos h1]
          rw [hE]
          refine Or.inl ⟨h1, ?_⟩
          unfold someA
          rw [h2]
      have HROW := Lib.hid (cms_row hown)
      have d0 : (decide ((l.length : Int) < N) && (ek == 0)) = false := by
        by_cases h : l.length < N
        · have : ek ≠ 0 := fun h2 => hgo ⟨h, h2⟩
          simp [this]
        · simp [h]
      have hcase : (((l.length : Int) < N) ∧ (ek == 0) = false) ∨ ¬ ((l.length : Int) < N) := by
        by_cases h : l.length < N
        · exact Or.inl ⟨by omega, by rw [beq_eq_false_iff_ne]; exact fun h2 => hgo ⟨h, h2⟩⟩
        · exact Or.inr (by omega)
      obtain ⟨E, hE⟩ : ∃ E, endV sk ek = E := ⟨_, rfl⟩
      rw [hE] at HE HF
      clear hst hrt hbel hown hsz hk hgo hE d0
      have HF2 := HF.out
      clear HF
      rcases HF2 with ⟨h0, h1⟩ | ⟨h0, h1⟩
      · have HSV := Lib.hid h1
        have d1 : (E == 0) = false := by simp [h0]
        have d2 : (E != 0) = true := by simp [h0]
        clear h0 h1
        rcases hcase with ⟨hl1, hl2⟩ | hl1
        · go_wp2_with fail
          refine HE.out.mono ?_
          rintro en w3 ⟨rfl, rfl⟩
          go_wp2_with fail
          go_ret2
          exact ⟨HB.out, Or.inl ⟨E, HSV.out, rfl⟩⟩
        · go_wp2_with fail
          refine HE.out.mono ?_
          rintro en w3 ⟨rfl, rfl⟩
          go_wp2_with fail
          go_ret2
          exact ⟨HB.out, Or.inl ⟨E, HSV.out, rfl⟩⟩
      · have HSV := Lib.hid h1
        subst h0
        clear h1
        rcases hcase with ⟨hl1, hl2⟩ | hl1
        · go_wp2_with fail
          refine HE.out.mono ?_
          rintro en w3 ⟨rfl, rfl⟩
          go_wp2_with fail
          go_ret2
          exact ⟨HB.out, Or.inr ⟨l, ao, cap, HSV.out, rfl, HROW.out⟩⟩
        · go_wp2_with fail
          refine HE.out.mono ?_
          rintro en w3 ⟨rfl, rfl⟩
          go_wp2_with fail
          go_ret2
          exact ⟨HB.out, Or.inr ⟨l, ao, cap, HSV.out, rfl, HROW.out⟩⟩
end Go.Proofs.Ytbpaongnehgodaa
