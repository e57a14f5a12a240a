/- NumReads, walked. -/
import Derived.Test.YtmepaeppkeaifaaNumLaw2
namespace Go.Proofs.Ytmepaeppkeaifaa
open Go.ChangeShapes Go.WideShapes Go.ChangeAt Go.RowKit
theorem textV_size (most : Int) (s : ByteArray) (e : Int) : (textV most s e).2.1.size ≤ s.size := by
  have h := readV_size (textM most) s e
  unfold textV
  split
  · exact h
  · exact Nat.le_trans (extract_le _ _) h
theorem Both.drewN {w wr : World} {g k : Nat} {s : ByteArray} {e : Int} (h : Both w wr g k s e) (q : Nat) : Both w (wr.drewN q) g k s e := ⟨h.r, h.q, below_drewN h.bel q, h.hg, h.hk, h.ne, h.sz⟩
set_option maxHeartbeats 4000000 in
set_option maxRecDepth 100000 in
theorem reads_any (s : ByteArray) (hs : s.size ≤ 300) (ao : Option Addr) (n cap : Nat) (hn : n ≤ 40) (a m : Nat → Int) (hm : ∀ i, i < n → -9223372036854775808 ≤ m i ∧ m i ≤ 9223372036854775807) (w : World) (h : ActsAt w ao n a m) :
    Calls Try.prog 7 #[.string s, .slice ao n cap] w (Ret (.bool true) w) := by
  have HA := Lib.hid awake_any
  have d1 : decide (300 < (s.size : Int)) = false := decide_eq_false (by omega)
  have d2 : decide (300 < s.size) = false := decide_eq_false (by omega)
  have d3 : decide (40 < (n : Int)) = false := decide_eq_false (by omega)
  have d4 : decide (40 < n) = false := decide_eq_false (by omega)
  have n2 : (n : Int) ≤ 40 := by omega
  have hs2 : (s.size : Int) ≤ 300 := by omega
  have HN := Lib.hid (new_any s w)
  have HI := Lib.hid h
  have HM := Lib.hid hm
  have HS := Lib.hid hs
  clear h hm hs hn
  go_enter Try.func7, Try.ntmps7
  go_wp2_with fail
  refine HN.out.mono ?_
  rintro e w1 ⟨rfl, b1, r1⟩
  have H0 : Hid (Both w (w1.alloc (.cells #[.string s, .int .i64 0] 69)) w.heap.size w1.heap.size s 0) :=
    ⟨r1.below (by go_grown), RAt.new _ _ _, b1.alloc b1.size _, Nat.le_refl _, b1.size, by have := r1.lt; omega, HS.out⟩
  obtain ⟨g, hg⟩ : ∃ g, g = w.heap.size := ⟨_, rfl⟩
  have HGS := Lib.hid hg
  rw [← hg] at H0 ⊢
  obtain ⟨k, hk⟩ : ∃ k, w1.heap.size = k := ⟨_, rfl⟩
  rw [hk] at H0
  clear b1 r1 hg
  go_wp2_with fail
  (try rw [hk])
  clear hk
  go_loopw [7] (fun iv wr => ∃ (i : Nat) (t : ByteArray) (u : Int), i ≤ n ∧ iv = .int .i64 i ∧ Both w wr g k t u) (fun iv _ => n - (intOf iv).toNat)
  case atStart => exact ⟨0, s, 0, Nat.zero_le _, rfl, H0.out⟩
  case round =>
    obtain ⟨i, t, u, hi, rfl, hB⟩ := hrel
    have hi2 : (i : Int) ≤ n := by omega
    have HB := Lib.hid hB
    by_cases hlt : i < n
    · have hlt2 : (i : Int) < n := by omega
      obtain ⟨b, off, rfl, hblt, hc⟩ := HI.out.below hB.bel (by omega)
      obtain ⟨cA, cM⟩ := hc i hlt
      have ht := hB.sz
      have hmi := HM.out i hlt
      have hbg : b ≠ g := fun e => by
        obtain ⟨b', off', e2, hb', _⟩ := HI.out (by omega)
        cases e2
        have := HGS.out
        omega
      have hbk : b ≠ k := fun e => by
        obtain ⟨b', off', e2, hb', _⟩ := HI.out (by omega)
        cases e2
        have := hB.hk
        omega
      have HLT := Lib.hid hlt
      by_cases ka : a i = 0
      · rw [ka] at cA
        have HNM := Lib.hid (num_any g t u (by omega) wr hB.r)
        have HSZ := Lib.hid (Nat.le_trans (readV_size (fun _ _ => 0) t u) ht)
        have HQN := Lib.hid (fun W hW => refnum_any k t u (by omega) W hW)
        obtain ⟨N, hN⟩ : ∃ N, readV (fun _ _ => 0) t u = N := ⟨_, rfl⟩
        rw [hN] at HNM HSZ HQN
        obtain ⟨x, t', u'⟩ := N
        simp only [] at HNM HSZ HQN
        clear hN hB ht hmi hbg hbk hc hblt cM ka hlt hi HI HM
        go_wp2_with fail
        refine HNM.out.mono ?_
        rintro e w2 ⟨rfl, h1, r1⟩
        have H1 := Lib.hid h1
        have HR1 := Lib.hid r1
        clear h1 r1
        go_wp2_with fail
        refine (HQN.out _ (HB.out.q.other H1.out HB.out.ne.symm)).mono ?_
        rintro e w3 ⟨rfl, h2, q2⟩
        have HB2 : Hid (Both w w3 g k t' u') := HB.out.step H1.out HR1.out h2 q2 HSZ.out
        have cE := HB2.out.q.c1
        have cS := HB2.out.q.c0
        have hsz2 : (t'.size : Int) ≤ 300 := by have := HSZ.out; omega
        have HErr : Hid (∀ q, Calls Try.prog 32 #[ptr g] (w3.drewN q) (fun e w' => e = .returned (.int .i64 u') ∧ w' = w3.drewN q)) := fun q => (err_any g t' u' (w3.drewN q) HB2.out.r).mono fun _ _ ⟨x1, x2⟩ => ⟨x1, x2.symm⟩
        have HLeft : Hid (∀ q, Calls Try.prog 33 #[ptr g] (w3.drewN q) (fun e w' => e = .returned (.int .i64 (t'.size : Nat)) ∧ w' = w3.drewN q)) := fun q => (left_any g t' u' (w3.drewN q) HB2.out.r (by have := HSZ.out; omega)).mono fun _ _ ⟨x1, x2⟩ => ⟨x1, x2.symm⟩
        have HEnd : Hid (∀ q, Calls Try.prog 34 #[ptr g] (w3.drewN q) (fun e w' => e = .returned (.int .i64 (endV t' u')) ∧ w' = w3.drewN q)) := fun q => (end_any g t' u' (w3.drewN q) HB2.out.r (by have := HSZ.out; omega)).mono fun _ _ ⟨x1, x2⟩ => ⟨x1, x2.symm⟩
        have HREnd : Hid (∀ q, Calls Try.prog 40 #[ptr k] (w3.drewN q) (fun e w' => e = .returned (.int .i64 (endV t' u')) ∧ w' = w3.drewN q)) := fun q => (refend_any k t' u' (w3.drewN q) HB2.out.q).mono fun _ _ ⟨x1, x2⟩ => ⟨x1, x2.symm⟩
        clear h2 q2 HR1 H1 HB
        generalize endV t' u' = ev at *
        go_wp2_with fail
        go_quiet ((first | (go_at_call 32; exact Calls.quiet_of_same (HErr.out _)) | (go_at_call 33; exact Calls.quiet_of_same (HLeft.out _)) | (go_at_call 34; exact Calls.quiet_of_same (HEnd.out _)) | (go_at_call 40; exact Calls.quiet_of_same (HREnd.out _))))
        go_wp2_with fail
        go_roundw
        case rel => exact ⟨i + 1, t', u', by have := HLT.out; omega, by go_num, HB2.out.drewN _⟩
        case measure => have := HLT.out; simp [intOf]; omega
      · have da : (a i == 0) = false := by rw [beq_eq_false_iff_ne]; exact ka
        by_cases kb : a i = 1
        · rw [kb] at cA
          have HNM := Lib.hid (fun W hW => rdupto_any (m i) g t u (by omega) W hW)
          have HSZ := Lib.hid (Nat.le_trans (readV_size (fun x _ => uptoM (m i) x) t u) ht)
          have HQN := Lib.hid (fun W hW => refupto_any (m i) k t u (by omega) W hW)
          obtain ⟨N, hN⟩ : ∃ N, readV (fun x _ => uptoM (m i) x) t u = N := ⟨_, rfl⟩
          rw [hN] at HNM HSZ HQN
          obtain ⟨x, t', u'⟩ := N
          simp only [] at HNM HSZ HQN
          generalize m i = y at *
          clear hN hB ht hmi hc ka kb da hlt hi HI HM
          go_wp2_with fail
          have hlb : b < wr.heap.size := hblt
          go_region_held3 (fun w' => w'.cell? ⟨b, off + i * 2 + 1, none⟩ = some (.int .i64 y)) (go_keep) (first | (go_at_call 37; refine (HNM.out _ (by exact HB.out.r)).mono ?_; rintro e w2 ⟨rfl, h1, r1⟩; (have H1 : Hid (Gr g wr w2) := gr_trans (gr_below (by go_grown)) h1); (have HR1 := Lib.hid r1); (have cM2 : w2.cell? ⟨b, off + i * 2 + 1, none⟩ = some (.int .i64 y) := ((World.cell?_of_block (H1.out.block b hlb (fun e => hbg (by injection e)))).trans cM)); clear h1 r1) | (go_at_call 38; refine (HQN.out _ (by exact HB.out.q.other H1.out HB.out.ne.symm)).mono ?_; rintro e w3 ⟨rfl, h2, q2⟩; (have H2 : Hid (Gr k w2 w3) := gr_trans (gr_below (by go_grown)) h2); (have HQ2 := Lib.hid q2); (have cM3 : w3.cell? ⟨b, off + i * 2 + 1, none⟩ = some (.int .i64 y) := ((World.cell?_of_block (H2.out.block b (Nat.lt_of_lt_of_le hlb H1.out.size) (fun e => hbk (by injection e)))).trans cM2)); clear h2 q2))
          have h2 := H2.out
          have q2 := HQ2.out
          have HB2 : Hid (Both w w3 g k t' u') := HB.out.step H1.out HR1.out h2 q2 HSZ.out
          have cE := HB2.out.q.c1
          have cS := HB2.out.q.c0
          have hsz2 : (t'.size : Int) ≤ 300 := by have := HSZ.out; omega
          have HErr : Hid (∀ q, Calls Try.prog 32 #[ptr g] (w3.drewN q) (fun e w' => e = .returned (.int .i64 u') ∧ w' = w3.drewN q)) := fun q => (err_any g t' u' (w3.drewN q) HB2.out.r).mono fun _ _ ⟨x1, x2⟩ => ⟨x1, x2.symm⟩
          have HLeft : Hid (∀ q, Calls Try.prog 33 #[ptr g] (w3.drewN q) (fun e w' => e = .returned (.int .i64 (t'.size : Nat)) ∧ w' = w3.drewN q)) := fun q => (left_any g t' u' (w3.drewN q) HB2.out.r (by have := HSZ.out; omega)).mono fun _ _ ⟨x1, x2⟩ => ⟨x1, x2.symm⟩
          have HEnd : Hid (∀ q, Calls Try.prog 34 #[ptr g] (w3.drewN q) (fun e w' => e = .returned (.int .i64 (endV t' u')) ∧ w' = w3.drewN q)) := fun q => (end_any g t' u' (w3.drewN q) HB2.out.r (by have := HSZ.out; omega)).mono fun _ _ ⟨x1, x2⟩ => ⟨x1, x2.symm⟩
          have HREnd : Hid (∀ q, Calls Try.prog 40 #[ptr k] (w3.drewN q) (fun e w' => e = .returned (.int .i64 (endV t' u')) ∧ w' = w3.drewN q)) := fun q => (refend_any k t' u' (w3.drewN q) HB2.out.q).mono fun _ _ ⟨x1, x2⟩ => ⟨x1, x2.symm⟩
          clear h2 q2 HR1 H1 HB
          generalize endV t' u' = ev at *
          go_wp2_with fail
          go_quiet ((first | (go_at_call 32; exact Calls.quiet_of_same (HErr.out _)) | (go_at_call 33; exact Calls.quiet_of_same (HLeft.out _)) | (go_at_call 34; exact Calls.quiet_of_same (HEnd.out _)) | (go_at_call 40; exact Calls.quiet_of_same (HREnd.out _))))
          go_wp2_with fail
          go_roundw
          case rel => exact ⟨i + 1, t', u', by have := HLT.out; omega, by go_num, HB2.out.drewN _⟩
          case measure => have := HLT.out; simp [intOf]; omega
        · have db : (a i == 1) = false := by rw [beq_eq_false_iff_ne]; exact kb
          have HNM := Lib.hid (fun W hW => rdtext_any (m i) g t u (by omega) W hW)
          have HSZ := Lib.hid (Nat.le_trans (textV_size (m i) t u) ht)
          have HQN := Lib.hid (fun W hW => rdreftext_any (m i) hmi k t u (by omega) W hW)
          obtain ⟨N, hN⟩ : ∃ N, textV (m i) t u = N := ⟨_, rfl⟩
          rw [hN] at HNM HSZ HQN
          obtain ⟨x, t', u'⟩ := N
          simp only [] at HNM HSZ HQN
          obtain ⟨m1, m2⟩ := hmi
          generalize m i = y at *
          generalize a i = z at *
          clear hN hB ht hc ka kb hlt hi HI HM
          go_wp2_with fail
          have hlb : b < wr.heap.size := hblt
          go_region_held3 (fun w' => w'.cell? ⟨b, off + i * 2 + 1, none⟩ = some (.int .i64 y)) (go_keep) (first | (go_at_call 31; refine (HNM.out _ (by exact HB.out.r)).mono ?_; rintro e w2 ⟨rfl, h1, r1⟩; (have H1 : Hid (Gr g wr w2) := gr_trans (gr_below (by go_grown)) h1); (have HR1 := Lib.hid r1); (have cM2 : w2.cell? ⟨b, off + i * 2 + 1, none⟩ = some (.int .i64 y) := ((World.cell?_of_block (H1.out.block b hlb (fun e => hbg (by injection e)))).trans cM)); clear h1 r1) | (go_at_call 39; refine (HQN.out _ (by exact HB.out.q.other H1.out HB.out.ne.symm)).mono ?_; rintro e w3 ⟨rfl, h2, q2⟩; (have H2 : Hid (Gr k w2 w3) := gr_trans (gr_below (by go_grown)) h2); (have HQ2 := Lib.hid q2); (have cM3 : w3.cell? ⟨b, off + i * 2 + 1, none⟩ = some (.int .i64 y) := ((World.cell?_of_block (H2.out.block b (Nat.lt_of_lt_of_le hlb H1.out.size) (fun e => hbk (by injection e)))).trans cM2)); clear h2 q2))
          have h2 := H2.out
          have q2 := HQ2.out
          have HB2 : Hid (Both w w3 g k t' u') := HB.out.step H1.out HR1.out h2 q2 HSZ.out
          have cE := HB2.out.q.c1
          have cS := HB2.out.q.c0
          have hsz2 : (t'.size : Int) ≤ 300 := by have := HSZ.out; omega
          have HErr : Hid (∀ q, Calls Try.prog 32 #[ptr g] (w3.drewN q) (fun e w' => e = .returned (.int .i64 u') ∧ w' = w3.drewN q)) := fun q => (err_any g t' u' (w3.drewN q) HB2.out.r).mono fun _ _ ⟨x1, x2⟩ => ⟨x1, x2.symm⟩
          have HLeft : Hid (∀ q, Calls Try.prog 33 #[ptr g] (w3.drewN q) (fun e w' => e = .returned (.int .i64 (t'.size : Nat)) ∧ w' = w3.drewN q)) := fun q => (left_any g t' u' (w3.drewN q) HB2.out.r (by have := HSZ.out; omega)).mono fun _ _ ⟨x1, x2⟩ => ⟨x1, x2.symm⟩
          have HEnd : Hid (∀ q, Calls Try.prog 34 #[ptr g] (w3.drewN q) (fun e w' => e = .returned (.int .i64 (endV t' u')) ∧ w' = w3.drewN q)) := fun q => (end_any g t' u' (w3.drewN q) HB2.out.r (by have := HSZ.out; omega)).mono fun _ _ ⟨x1, x2⟩ => ⟨x1, x2.symm⟩
          have HREnd : Hid (∀ q, Calls Try.prog 40 #[ptr k] (w3.drewN q) (fun e w' => e = .returned (.int .i64 (endV t' u')) ∧ w' = w3.drewN q)) := fun q => (refend_any k t' u' (w3.drewN q) HB2.out.q).mono fun _ _ ⟨x1, x2⟩ => ⟨x1, x2.symm⟩
          clear h2 q2 HR1 H1 HB
          generalize endV t' u' = ev at *
          go_wp2_with fail
          go_quiet ((first | (go_at_call 32; exact Calls.quiet_of_same (HErr.out _)) | (go_at_call 33; exact Calls.quiet_of_same (HLeft.out _)) | (go_at_call 34; exact Calls.quiet_of_same (HEnd.out _)) | (go_at_call 40; exact Calls.quiet_of_same (HREnd.out _))))
          go_wp2_with fail
          go_roundw
          case rel => exact ⟨i + 1, t', u', by have := HLT.out; omega, by go_num, HB2.out.drewN _⟩
          case measure => have := HLT.out; simp [intOf]; omega
    · obtain rfl : i = n := by omega
      have HE := Lib.hid hB.bel
      clear hB HB hlt hi
      go_wp2_with fail
      refine (HA.out _).mono ?_
      rintro e w2 ⟨rfl, h2⟩
      have H2 : Hid (Below w.heap.size w w2) := HE.out.trans (h2.mono HE.out.size)
      clear h2 HE
      have HN1 := Lib.hid num_none
      have HN2 := Lib.hid upto_none
      have HN3 := Lib.hid text_none
      have HN4 := Lib.hid left_none
      have HN5 := Lib.hid err_none
      have HN6 := Lib.hid end_none
      go_wp2_with fail
      refine (HN1.out _).mono ?_
      rintro e w3 ⟨rfl, rfl⟩
      go_wp2_with fail
      refine (HN2.out _ _).mono ?_
      rintro e w3 ⟨rfl, h3⟩
      have H3 : Hid (Below w.heap.size w w3) := H2.out.trans (h3.mono H2.out.size)
      clear h3 H2
      go_wp2_with fail
      refine (HN3.out _ _).mono ?_
      rintro e w4 ⟨rfl, h4⟩
      have H4 : Hid (Below w.heap.size w w4) := H3.out.trans (h4.mono H3.out.size)
      clear h4 H3
      go_wp2_with fail
      refine (HN4.out _).mono ?_
      rintro e w5 ⟨rfl, rfl⟩
      go_wp2_with fail
      refine (HN5.out _).mono ?_
      rintro e w5 ⟨rfl, rfl⟩
      go_wp2_with fail
      refine (HN6.out _).mono ?_
      rintro e w5 ⟨rfl, rfl⟩
      go_wp2
      go_ret
      exact ⟨rfl, H4.out⟩
end Go.Proofs.Ytmepaeppkeaifaa
