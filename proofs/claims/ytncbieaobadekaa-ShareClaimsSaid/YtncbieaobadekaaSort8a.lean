/- symMerge of Go's package slices, in general: the walk, where the turn is above. -/
import Derived.Test.YtncbieaobadekaaSort7
import Derived.IntWalk
namespace Go.Proofs.Ytncbieaobadekaa
open Go.ChangeShapes Go.WideShapes Go.ChangeAt Go.RowKit
set_option maxRecDepth 100000 in
set_option maxHeartbeats 4000000 in
theorem sym_up {V : Int → Prop} {cf : Int → Int → Int} {Inv : World → Prop} {k : Int → Int → Prop} (gf : Nat) (caps : Array Value) (f : Nat → Int) (g n cap a m b mid lo hi : Nat) (HC : CmpOk gf caps g V cf Inv) (hk : SWO k) (hcf : ∀ x y, V x → V y → (cf x y < 0 ↔ k x y))
    (IH : ∀ (a' m' b' : Nat) (f' : Nat → Int) (w' : World), b' - a' < b - a → a' < m' → m' < b' → b' ≤ n → (∀ i, a' ≤ i → i < b' → V (f' i)) → (∀ s t, a' ≤ s → s < m' → m' ≤ t → t < b' → f' s < f' t) → SortedOn (ltK k) f' a' m' → SortedOn (ltK k) f' m' b' → Inv w' → RowF w' g n f' → Calls Try.prog 119 #[.slice (some ⟨g, 0, none⟩) n cap, .int .i64 a', .int .i64 m', .int .i64 b', .func (.func gf) #[] caps] w' (Sorts (ltK k) g n f' a' b' w'))
    (ham : a + 1 < m) (hmb : m + 1 < b) (hbn : b ≤ n) (hn : n ≤ 1000000) (hmid : mid = (a + b) / 2) (hcase : mid < m) (hlo : lo = mid + m - b) (hhi : hi = mid) (hV : ∀ i, a ≤ i → i < b → V (f i)) (hcr : ∀ s t, a ≤ s → s < m → m ≤ t → t < b → f s < f t) (hs1 : SortedOn (ltK k) f a m) (hs2 : SortedOn (ltK k) f m b) (w : World) (hI : Inv w) (h : RowF w g n f) :
    Calls Try.prog 119 #[.slice (some ⟨g, 0, none⟩) n cap, .int .i64 a, .int .i64 m, .int .i64 b, .func (.func gf) #[] caps] w (Sorts (ltK k) g n f a b w) := by
  have a1 : (a : Int) + 1 < m := by omega
  have a2 : (m : Int) + 1 < b := by omega
  have a3 : (b : Int) ≤ n := by omega
  have a5 : (n : Int) ≤ 1000000 := by omega
  have d28 : ((m : Int) - (a : Int) == 1) = false := by rw [beq_eq_false_iff_ne]; omega
  have d80 : ((b : Int) - (m : Int) == 1) = false := by rw [beq_eq_false_iff_ne]; omega
  have dm : decide ((mid : Int) < m) = true := decide_eq_true (by omega)
  have dm2 : decide (mid < m) = true := decide_eq_true (by omega)
  have md1 : (a : Int) ≤ mid := by omega
  have md2 : (mid : Int) < b := by omega
  have HINV := Lib.hid hI
  have eg := HC.enter
  have HCC := Lib.hid HC
  have HK := Lib.hid (And.intro hk hcf)
  have HVV := Lib.hid hV
  have HCR := Lib.hid hcr
  have HS1 := Lib.hid hs1
  have HS2 := Lib.hid hs2
  have HR := Lib.hid h
  have HIH := Lib.hid IH
  have HM := Lib.hid hmid
  have HLO := Lib.hid hlo
  have HHI := Lib.hid hhi
  have HCS := Lib.hid hcase
  have hmid2 : ((a : Int) + (b : Int)) / 2 = ((mid : Nat) : Int) := by omega
  obtain ⟨pp, hpp⟩ : ∃ pp, pp = mid + m - 1 := ⟨_, rfl⟩
  have HPP := Lib.hid hpp
  have hpp2 : (mid : Int) + (m : Int) - 1 = ((pp : Nat) : Int) := by omega
  have hlo2 : (mid : Int) + (m : Int) - (b : Int) = ((lo : Nat) : Int) := by omega
  clear h hI HC hk hcf hV hcr hs1 hs2 IH hmid hlo hhi hcase hpp
  go_enter Try.func119, Try.ntmps119
  go_wp2_with fail
  go_loopw [20, 21] (fun sv rv wr => ∃ (s r : Nat), sv = .int .i64 (s : Nat) ∧ rv = .int .i64 (r : Nat) ∧ lo ≤ s ∧ s ≤ r ∧ r ≤ hi ∧ RowF wr g n f ∧ Gr g w wr ∧ (∀ c, lo ≤ c → c < s → ltK k (f c) (f (pp - c))) ∧ (∀ c, r ≤ c → c < hi → ltK k (f (pp - c)) (f c))) (fun sv rv _ => (intOf rv).toNat - (intOf sv).toNat)
  case atStart => exact ⟨lo, hi, by first | rfl | rw [HLO.out], by first | rfl | rw [HHI.out], Nat.le_refl _, by have := HLO.out; have := HHI.out; have := HM.out; have := HCS.out; omega, Nat.le_refl _, HR.out, gr_refl _ _, fun c h1 h2 => by omega, fun c h1 h2 => by omega⟩
  case round =>
    obtain ⟨s, r, rfl, rfl, hls, hsr, hrh, hrow, hgr, hP, hQ⟩ := hrel
    have HW := Lib.hid hrow
    have HG := Lib.hid hgr
    have HP := Lib.hid hP
    have HQ := Lib.hid hQ
    have HLS := Lib.hid hls
    have HRH := Lib.hid hrh
    clear hgr hP hQ
    by_cases hlt : s < r
    · obtain ⟨c, hc⟩ : ∃ c : Nat, c = (s + r) / 2 := ⟨_, rfl⟩
      have hc2 : ((s : Int) + (r : Int)) / 2 = ((c : Nat) : Int) := by omega
      have c1 : s ≤ c := by omega
      have c2 : c < r := by omega
      obtain ⟨q, hq⟩ : ∃ q : Nat, q = pp - c := ⟨_, rfl⟩
      have hf : lo ≤ c ∧ c < hi ∧ a ≤ c ∧ c < m ∧ m ≤ q ∧ q < b ∧ c ≤ pp ∧ q + c = pp := by
        have e1 := HLO.out
        have e2 := HHI.out
        have e3 := HM.out
        have e4 := HCS.out
        have e5 := HPP.out
        omega
      have HF := Lib.hid hf
      have hlt2 : (s : Int) < r := by omega
      have b1 : (s : Int) ≤ 1000000 := by omega
      have b2 : (r : Int) ≤ 1000000 := by omega
      have hpq : (pp : Int) - (c : Int) = ((q : Nat) : Int) := by omega
      have hw : IntKind.i64.wrap ((pp : Int) - (c : Int)) = ((q : Nat) : Int) := by rw [hpq]; exact IntWalk.i64_in _ (by omega)
      have hcn : (c : Int) < n := by omega
      have hqn : (q : Int) < n := by omega
      have l1 := hrow.cell c (by omega)
      have l2 := hrow.cell q (by omega)
      have hvx : V (f q) := HVV.out q (by omega) (by omega)
      have hvy : V (f c) := HVV.out c (by omega) (by omega)
      have hcmp := fun z => HCC.out.calls (wr.drewN z) (HCC.out.draws _ _ (HCC.out.inv _ _ HINV.out HG.out)) (f q) (f c) hvx hvy
      have HCMP := Lib.hid hcmp
      have hxy := HCR.out c q (by omega) (by omega) (by omega) (by omega)
      have hlk := (ltK_late (k := k) hxy).trans (HK.out.2 _ _ hvx hvy).symm
      obtain ⟨x, hx⟩ : ∃ x, f q = x := ⟨_, rfl⟩
      obtain ⟨y, hy⟩ : ∃ y, f c = y := ⟨_, rfl⟩
      rw [hx] at l2 hlk HCMP
      rw [hy] at l1 hlk HCMP
      have HX := Lib.hid hx
      have HY := Lib.hid hy
      have HXY := Lib.hid hxy
      have HQE := Lib.hid hq
      have hcc2 := Lib.hid hc
      clear hcmp hrow hx hy hxy hvx hvy hf hq hc
      obtain ⟨t, ht⟩ : ∃ t, cf x y = t := ⟨_, rfl⟩
      rw [ht] at HCMP hlk
      clear ht
      by_cases hneg : t < 0
      · have HLT : Hid (ltK k (f q) (f c)) := by
          show ltK k (f q) (f c)
          rw [HX.out, HY.out]
          exact hlk.2 hneg
        have dc : decide (t < 0) = true := decide_eq_true hneg
        clear hlk
        go_wp2_with fail
        go_quiet ((go_at_fn gf; exact Calls.quiet_of (HCMP.out _)))
        go_wp2_with fail
        go_roundw
        case rel => exact ⟨s, c, rfl, rfl, HLS.out, c1, Nat.le_of_lt HF.out.2.1, HW.out, ⟨HG.out.os, HG.out.tape, HG.out.output, HG.out.size, HG.out.block⟩, HP.out, fun c' h1 h2 => by
            have hf := HF.out
            have e1 := HLO.out
            have e2 := HHI.out
            have e3 := HM.out
            have e4 := HCS.out
            have e5 := HPP.out
            by_cases hcc : c' = c
            · rw [hcc, ← HQE.out]; exact HLT.out
            · exact ltK_trans HK.out.1 (HS2.out (pp - c') q (by omega) (by omega) (by omega)) (ltK_trans HK.out.1 HLT.out (HS1.out c c' (by omega) (by omega) (by omega)))⟩
        case measure => simp [intOf]; omega
      · have HGE : Hid (ltK k (f c) (f q)) := ltK_total HK.out.1 (by rw [HX.out, HY.out]; exact fun hq => hneg (hlk.1 hq)) (by have := HXY.out; omega)
        have dc : decide (t < 0) = false := decide_eq_false hneg
        clear hlk
        go_wp2_with fail
        go_quiet ((go_at_fn gf; exact Calls.quiet_of (HCMP.out _)))
        go_wp2_with fail
        go_roundw
        case rel => exact ⟨c + 1, r, by go_num, rfl, by have := HF.out; omega, c2, HRH.out, HW.out, ⟨HG.out.os, HG.out.tape, HG.out.output, HG.out.size, HG.out.block⟩, fun c' h1 h2 => by
            have hf := HF.out
            have e1 := HLO.out
            have e2 := HHI.out
            have e3 := HM.out
            have e4 := HCS.out
            have e5 := HPP.out
            by_cases hcc : c' = c
            · rw [hcc, ← HQE.out]; exact HGE.out
            · exact ltK_trans HK.out.1 (HS1.out c' c (by omega) (by omega) (by omega)) (ltK_trans HK.out.1 HGE.out (HS2.out q (pp - c') (by omega) (by omega) (by omega))), HQ.out⟩
        case measure => simp [intOf]; omega
    · obtain rfl : s = r := by omega
      obtain ⟨u1, u2, u3, u4, u5, uA, uB⟩ := search_gives (L := ltK k) (fun h1 h2 => ltK_trans HK.out.1 h1 h2) f (lo := lo) (hi := hi) (s := s) HM.out (by omega) (by omega) (Or.inl ⟨HCS.out, HLO.out, HHI.out⟩) HLS.out HRH.out HS1.out HS2.out (fun c h1 h2 => by rw [← HPP.out]; exact HP.out c h1 h2) (fun c h1 h2 => by rw [← HPP.out]; exact HQ.out c h1 h2)
      obtain ⟨e, he⟩ : ∃ e : Nat, e = mid + m - s := ⟨_, rfl⟩
      rw [← he] at u4 u5 uA uB
      have HAL := Lib.hid (halves_of (L := ltK k) f u1 u2 u4 u5 (mid := mid) (by omega) HS1.out HS2.out uA uB)
      have HSA := Lib.hid (rot_same f (a := a) (b := b) u1 u2 u4 u5)
      have he2 : (mid : Int) + (m : Int) - (s : Int) = ((e : Nat) : Int) := by omega
      have HUU : Hid (mid = s + (e - m)) := by show mid = _; omega
      have b1 : (s : Int) ≤ 1000000 := by omega
      clear uA uB he hlt hls hsr hrh HP HQ
      have UU : Hid (a < mid ∧ mid < b ∧ mid ≤ b ∧ a ≤ mid) := by show _ ∧ _; have := HM.out; omega
      have UE : Hid (a ≤ s ∧ s ≤ m ∧ s ≤ mid ∧ m ≤ e ∧ e ≤ b ∧ mid ≤ e) := ⟨u1, u2, u3, u4, u5, by have := HUU.out; omega⟩
      have HV1 : Hid (∀ i, a ≤ i → i < b → V (rotF f s m e i)) := fun i i1 i2 => by
        obtain ⟨j, j1, j2, ej⟩ := HSA.out.from_ i i1 i2
        rw [ej]
        exact HVV.out j j1 j2
      have HC1 : Hid (∀ s' t', a ≤ s' → s' < s → s ≤ t' → t' < mid → rotF f s m e s' < rotF f s m e t') := fun s' t' h1 h2 h3 h4 => by
        rw [rot_a f h2, rot_b f h3 (by have := HUU.out; omega)]
        exact HCR.out _ _ h1 (by omega) (by omega) (by have := HUU.out; omega)
      have HC2 : Hid (∀ s' t', mid ≤ s' → s' < e → e ≤ t' → t' < b → rotF f s m e s' < rotF f s m e t') := fun s' t' h1 h2 h3 h4 => by
        rw [rot_c f (by have := HUU.out; omega) h2, rot_d f u2 u4 h3]
        exact HCR.out _ _ (by have := HUU.out; omega) (by have := HUU.out; omega) (by omega) h4
      have HD1 : Hid (a = s ∨ s = mid → SortedOn (ltK k) (rotF f s m e) a mid) := fun hh => by
        rcases hh with hh | hh
        · have := HAL.out.s2; rw [← hh] at this ⊢; exact this
        · have := HAL.out.s1; rw [hh] at this ⊢; exact this
      have HD2 : Hid (mid = e ∨ e = b → SortedOn (ltK k) (rotF f s m e) mid b) := fun hh => by
        rcases hh with hh | hh
        · have := HAL.out.s4; rw [← hh] at this; rw [← hh]; exact this
        · have := HAL.out.s3; rw [hh] at this ⊢; exact this
      have q1 : (a : Int) ≤ s := by omega
      have q2 : (s : Int) ≤ m := by omega
      have q3 : (m : Int) ≤ e := by omega
      have q4 : (e : Int) ≤ b := by omega
      clear u1 u2 u3 u4 u5 hrow
      by_cases r1 : s < m
      · by_cases r2 : m < e
        · have g_s_m : decide ((s : Int) < (m : Int)) = true := decide_eq_true (by omega)
          have n_s_m : decide (s < m) = true := decide_eq_true (by omega)
          have g_m_e : decide ((m : Int) < (e : Int)) = true := decide_eq_true (by omega)
          have n_m_e : decide (m < e) = true := decide_eq_true (by omega)
          have R1 := Lib.hid (And.intro r1 r2)
          clear r1 r2
          go_wp2_with fail
          refine (rotate_any f g n cap s m e (.func (.func gf) #[] caps) R1.out.1 R1.out.2 (by have := UU.out; omega) hn wr HW.out).mono ?_
          rintro e1 w1 ⟨rfl, hw1, hg1⟩
          have HW1 := Lib.hid hw1
          have HG1 := Lib.hid (gr_trans HG.out hg1)
          clear hw1 hg1
          by_cases r1 : a < s
          · by_cases r2 : s < mid
            · have g_a_s : decide ((a : Int) < (s : Int)) = true := decide_eq_true (by omega)
              have n_a_s : decide (a < s) = true := decide_eq_true (by omega)
              have g_s_mid : decide ((s : Int) < (mid : Int)) = true := decide_eq_true (by omega)
              have n_s_mid : decide (s < mid) = true := decide_eq_true (by omega)
              have R1 := Lib.hid (And.intro r1 r2)
              clear r1 r2
              go_wp2_with fail
              refine (HIH.out a s mid (rotF f s m e) w1 (by have := UU.out; omega) R1.out.1 R1.out.2 (by have := UU.out; omega) (fun i i1 i2 => HV1.out i i1 (by have := UU.out; omega)) HC1.out HAL.out.s1 HAL.out.s2 (HCC.out.inv _ _ HINV.out HG1.out) HW1.out).mono ?_
              rintro e2 w2 ⟨rfl, f1, hw2, hg2, ho1, he1⟩
              have HW2 := Lib.hid hw2
              have HG2 := Lib.hid (gr_trans HG1.out hg2)
              have HO1 := Lib.hid ho1
              have HE1 := Lib.hid he1
              clear hw2 hg2 ho1 he1
              by_cases r1 : mid < e
              · by_cases r2 : e < b
                · have g_mid_e : decide ((mid : Int) < (e : Int)) = true := decide_eq_true (by omega)
                  have n_mid_e : decide (mid < e) = true := decide_eq_true (by omega)
                  have g_e_b : decide ((e : Int) < (b : Int)) = true := decide_eq_true (by omega)
                  have n_e_b : decide (e < b) = true := decide_eq_true (by omega)
                  have R1 := Lib.hid (And.intro r1 r2)
                  clear r1 r2
                  go_wp2_with fail
                  refine (HIH.out mid e b f1 w2 (by have := UU.out; omega) R1.out.1 R1.out.2 hbn (fun i i1 i2 => by rw [HE1.out.out i (by omega)]; exact HV1.out i (by have := UU.out; omega) i2) (fun s' t' h1 h2 h3 h4 => by rw [HE1.out.out s' (by omega), HE1.out.out t' (by have := R1.out; omega)]; exact HC2.out s' t' h1 h2 h3 h4) (sorted_out HE1.out (Nat.le_refl _) HAL.out.s3) (sorted_out HE1.out (Nat.le_of_lt R1.out.1) HAL.out.s4) (HCC.out.inv _ _ HINV.out HG2.out) HW2.out).mono ?_
                  rintro e3 w3 ⟨rfl, f2, hw3, hg3, ho2, he2⟩
                  have HW3 := Lib.hid hw3
                  have HG3 := Lib.hid (gr_trans HG2.out hg3)
                  have HO2 := Lib.hid ho2
                  have HE2 := Lib.hid he2
                  clear hw3 hg3 ho2 he2
                  go_wp2_with fail
                  go_end0
                  exact ⟨rfl, f2, HW3.out, HG3.out, halves_done _ f1 f2 HAL.out.x HE1.out HO1.out HE2.out HO2.out, (HSA.out.trans (HE1.out.wide (Nat.le_refl _) UU.out.2.2.1)).trans (HE2.out.wide UU.out.2.2.2 (Nat.le_refl _))⟩
                · have g_mid_e : decide ((mid : Int) < (e : Int)) = true := decide_eq_true (by omega)
                  have n_mid_e : decide (mid < e) = true := decide_eq_true (by omega)
                  have g_e_b : decide ((e : Int) < (b : Int)) = false := decide_eq_false (by omega)
                  have n_e_b : decide (e < b) = false := decide_eq_false (by omega)
                  have R1 : Hid (mid = e ∨ e = b) := Or.inr (by omega)
                  clear r1 r2
                  have HO2 := Lib.hid (sorted_out HE1.out (Nat.le_refl _) (HD2.out R1.out))
                  obtain ⟨f2, hf2⟩ : ∃ f2, f2 = f1 := ⟨_, rfl⟩
                  rw [← hf2] at HO2
                  have HE2 : Hid (Same mid b f1 f2) := by rw [hf2]; exact Same.refl _ _ _
                  have HW3 : Hid (RowF w2 g n f2) := by rw [hf2]; exact HW2.out
                  have HG3 := HG2
                  clear hf2
                  go_wp2_with fail
                  go_end0
                  exact ⟨rfl, f2, HW3.out, HG3.out, halves_done _ f1 f2 HAL.out.x HE1.out HO1.out HE2.out HO2.out, (HSA.out.trans (HE1.out.wide (Nat.le_refl _) UU.out.2.2.1)).trans (HE2.out.wide UU.out.2.2.2 (Nat.le_refl _))⟩
              · have g_mid_e : decide ((mid : Int) < (e : Int)) = false := decide_eq_false (by omega)
                have n_mid_e : decide (mid < e) = false := decide_eq_false (by omega)
                have R1 : Hid (mid = e ∨ e = b) := Or.inl (by omega)
                clear r1
                have HO2 := Lib.hid (sorted_out HE1.out (Nat.le_refl _) (HD2.out R1.out))
                obtain ⟨f2, hf2⟩ : ∃ f2, f2 = f1 := ⟨_, rfl⟩
                rw [← hf2] at HO2
                have HE2 : Hid (Same mid b f1 f2) := by rw [hf2]; exact Same.refl _ _ _
                have HW3 : Hid (RowF w2 g n f2) := by rw [hf2]; exact HW2.out
                have HG3 := HG2
                clear hf2
                go_wp2_with fail
                go_end0
                exact ⟨rfl, f2, HW3.out, HG3.out, halves_done _ f1 f2 HAL.out.x HE1.out HO1.out HE2.out HO2.out, (HSA.out.trans (HE1.out.wide (Nat.le_refl _) UU.out.2.2.1)).trans (HE2.out.wide UU.out.2.2.2 (Nat.le_refl _))⟩
            · have g_a_s : decide ((a : Int) < (s : Int)) = true := decide_eq_true (by omega)
              have n_a_s : decide (a < s) = true := decide_eq_true (by omega)
              have g_s_mid : decide ((s : Int) < (mid : Int)) = false := decide_eq_false (by omega)
              have n_s_mid : decide (s < mid) = false := decide_eq_false (by omega)
              have R1 : Hid (a = s ∨ s = mid) := Or.inr (by omega)
              clear r1 r2
              have HO1' := HD1.out R1.out
              obtain ⟨f1, hf1⟩ : ∃ f1, f1 = rotF f s m e := ⟨_, rfl⟩
              have HE1 : Hid (Same a mid (rotF f s m e) f1) := by rw [hf1]; exact Same.refl _ _ _
              have HO1 : Hid (SortedOn (ltK k) f1 a mid) := by rw [hf1]; exact HO1'
              have HW2 : Hid (RowF w1 g n f1) := by rw [hf1]; exact HW1.out
              have HG2 := HG1
              obtain ⟨w2, hw2⟩ : ∃ w2, w2 = w1 := ⟨_, rfl⟩
              rw [← hw2] at HW2 HG2 ⊢
              clear hf1 hw2 HO1'
              by_cases r1 : mid < e
              · by_cases r2 : e < b
                · have g_mid_e : decide ((mid : Int) < (e : Int)) = true := decide_eq_true (by omega)
                  have n_mid_e : decide (mid < e) = true := decide_eq_true (by omega)
                  have g_e_b : decide ((e : Int) < (b : Int)) = true := decide_eq_true (by omega)
                  have n_e_b : decide (e < b) = true := decide_eq_true (by omega)
                  have R1 := Lib.hid (And.intro r1 r2)
                  clear r1 r2
                  go_wp2_with fail
                  refine (HIH.out mid e b f1 w2 (by have := UU.out; omega) R1.out.1 R1.out.2 hbn (fun i i1 i2 => by rw [HE1.out.out i (by omega)]; exact HV1.out i (by have := UU.out; omega) i2) (fun s' t' h1 h2 h3 h4 => by rw [HE1.out.out s' (by omega), HE1.out.out t' (by have := R1.out; omega)]; exact HC2.out s' t' h1 h2 h3 h4) (sorted_out HE1.out (Nat.le_refl _) HAL.out.s3) (sorted_out HE1.out (Nat.le_of_lt R1.out.1) HAL.out.s4) (HCC.out.inv _ _ HINV.out HG2.out) HW2.out).mono ?_
                  rintro e3 w3 ⟨rfl, f2, hw3, hg3, ho2, he2⟩
                  have HW3 := Lib.hid hw3
                  have HG3 := Lib.hid (gr_trans HG2.out hg3)
                  have HO2 := Lib.hid ho2
                  have HE2 := Lib.hid he2
                  clear hw3 hg3 ho2 he2
                  go_wp2_with fail
                  go_end0
                  exact ⟨rfl, f2, HW3.out, HG3.out, halves_done _ f1 f2 HAL.out.x HE1.out HO1.out HE2.out HO2.out, (HSA.out.trans (HE1.out.wide (Nat.le_refl _) UU.out.2.2.1)).trans (HE2.out.wide UU.out.2.2.2 (Nat.le_refl _))⟩
                · have g_mid_e : decide ((mid : Int) < (e : Int)) = true := decide_eq_true (by omega)
                  have n_mid_e : decide (mid < e) = true := decide_eq_true (by omega)
                  have g_e_b : decide ((e : Int) < (b : Int)) = false := decide_eq_false (by omega)
                  have n_e_b : decide (e < b) = false := decide_eq_false (by omega)
                  have R1 : Hid (mid = e ∨ e = b) := Or.inr (by omega)
                  clear r1 r2
                  have HO2 := Lib.hid (sorted_out HE1.out (Nat.le_refl _) (HD2.out R1.out))
                  obtain ⟨f2, hf2⟩ : ∃ f2, f2 = f1 := ⟨_, rfl⟩
                  rw [← hf2] at HO2
                  have HE2 : Hid (Same mid b f1 f2) := by rw [hf2]; exact Same.refl _ _ _
                  have HW3 : Hid (RowF w2 g n f2) := by rw [hf2]; exact HW2.out
                  have HG3 := HG2
                  clear hf2
                  go_wp2_with fail
                  go_end0
                  exact ⟨rfl, f2, HW3.out, HG3.out, halves_done _ f1 f2 HAL.out.x HE1.out HO1.out HE2.out HO2.out, (HSA.out.trans (HE1.out.wide (Nat.le_refl _) UU.out.2.2.1)).trans (HE2.out.wide UU.out.2.2.2 (Nat.le_refl _))⟩
              · have g_mid_e : decide ((mid : Int) < (e : Int)) = false := decide_eq_false (by omega)
                have n_mid_e : decide (mid < e) = false := decide_eq_false (by omega)
                have R1 : Hid (mid = e ∨ e = b) := Or.inl (by omega)
                clear r1
                have HO2 := Lib.hid (sorted_out HE1.out (Nat.le_refl _) (HD2.out R1.out))
                obtain ⟨f2, hf2⟩ : ∃ f2, f2 = f1 := ⟨_, rfl⟩
                rw [← hf2] at HO2
                have HE2 : Hid (Same mid b f1 f2) := by rw [hf2]; exact Same.refl _ _ _
                have HW3 : Hid (RowF w2 g n f2) := by rw [hf2]; exact HW2.out
                have HG3 := HG2
                clear hf2
                go_wp2_with fail
                go_end0
                exact ⟨rfl, f2, HW3.out, HG3.out, halves_done _ f1 f2 HAL.out.x HE1.out HO1.out HE2.out HO2.out, (HSA.out.trans (HE1.out.wide (Nat.le_refl _) UU.out.2.2.1)).trans (HE2.out.wide UU.out.2.2.2 (Nat.le_refl _))⟩
          · have g_a_s : decide ((a : Int) < (s : Int)) = false := decide_eq_false (by omega)
            have n_a_s : decide (a < s) = false := decide_eq_false (by omega)
            have R1 : Hid (a = s ∨ s = mid) := Or.inl (by omega)
            clear r1
            have HO1' := HD1.out R1.out
            obtain ⟨f1, hf1⟩ : ∃ f1, f1 = rotF f s m e := ⟨_, rfl⟩
            have HE1 : Hid (Same a mid (rotF f s m e) f1) := by rw [hf1]; exact Same.refl _ _ _
            have HO1 : Hid (SortedOn (ltK k) f1 a mid) := by rw [hf1]; exact HO1'
            have HW2 : Hid (RowF w1 g n f1) := by rw [hf1]; exact HW1.out
            have HG2 := HG1
            obtain ⟨w2, hw2⟩ : ∃ w2, w2 = w1 := ⟨_, rfl⟩
            rw [← hw2] at HW2 HG2 ⊢
            clear hf1 hw2 HO1'
            by_cases r1 : mid < e
            · by_cases r2 : e < b
              · have g_mid_e : decide ((mid : Int) < (e : Int)) = true := decide_eq_true (by omega)
                have n_mid_e : decide (mid < e) = true := decide_eq_true (by omega)
                have g_e_b : decide ((e : Int) < (b : Int)) = true := decide_eq_true (by omega)
                have n_e_b : decide (e < b) = true := decide_eq_true (by omega)
                have R1 := Lib.hid (And.intro r1 r2)
                clear r1 r2
                go_wp2_with fail
                refine (HIH.out mid e b f1 w2 (by have := UU.out; omega) R1.out.1 R1.out.2 hbn (fun i i1 i2 => by rw [HE1.out.out i (by omega)]; exact HV1.out i (by have := UU.out; omega) i2) (fun s' t' h1 h2 h3 h4 => by rw [HE1.out.out s' (by omega), HE1.out.out t' (by have := R1.out; omega)]; exact HC2.out s' t' h1 h2 h3 h4) (sorted_out HE1.out (Nat.le_refl _) HAL.out.s3) (sorted_out HE1.out (Nat.le_of_lt R1.out.1) HAL.out.s4) (HCC.out.inv _ _ HINV.out HG2.out) HW2.out).mono ?_
                rintro e3 w3 ⟨rfl, f2, hw3, hg3, ho2, he2⟩
                have HW3 := Lib.hid hw3
                have HG3 := Lib.hid (gr_trans HG2.out hg3)
                have HO2 := Lib.hid ho2
                have HE2 := Lib.hid he2
                clear hw3 hg3 ho2 he2
                go_wp2_with fail
                go_end0
                exact ⟨rfl, f2, HW3.out, HG3.out, halves_done _ f1 f2 HAL.out.x HE1.out HO1.out HE2.out HO2.out, (HSA.out.trans (HE1.out.wide (Nat.le_refl _) UU.out.2.2.1)).trans (HE2.out.wide UU.out.2.2.2 (Nat.le_refl _))⟩
              · have g_mid_e : decide ((mid : Int) < (e : Int)) = true := decide_eq_true (by omega)
                have n_mid_e : decide (mid < e) = true := decide_eq_true (by omega)
                have g_e_b : decide ((e : Int) < (b : Int)) = false := decide_eq_false (by omega)
                have n_e_b : decide (e < b) = false := decide_eq_false (by omega)
                have R1 : Hid (mid = e ∨ e = b) := Or.inr (by omega)
                clear r1 r2
                have HO2 := Lib.hid (sorted_out HE1.out (Nat.le_refl _) (HD2.out R1.out))
                obtain ⟨f2, hf2⟩ : ∃ f2, f2 = f1 := ⟨_, rfl⟩
                rw [← hf2] at HO2
                have HE2 : Hid (Same mid b f1 f2) := by rw [hf2]; exact Same.refl _ _ _
                have HW3 : Hid (RowF w2 g n f2) := by rw [hf2]; exact HW2.out
                have HG3 := HG2
                clear hf2
                go_wp2_with fail
                go_end0
                exact ⟨rfl, f2, HW3.out, HG3.out, halves_done _ f1 f2 HAL.out.x HE1.out HO1.out HE2.out HO2.out, (HSA.out.trans (HE1.out.wide (Nat.le_refl _) UU.out.2.2.1)).trans (HE2.out.wide UU.out.2.2.2 (Nat.le_refl _))⟩
            · have g_mid_e : decide ((mid : Int) < (e : Int)) = false := decide_eq_false (by omega)
              have n_mid_e : decide (mid < e) = false := decide_eq_false (by omega)
              have R1 : Hid (mid = e ∨ e = b) := Or.inl (by omega)
              clear r1
              have HO2 := Lib.hid (sorted_out HE1.out (Nat.le_refl _) (HD2.out R1.out))
              obtain ⟨f2, hf2⟩ : ∃ f2, f2 = f1 := ⟨_, rfl⟩
              rw [← hf2] at HO2
              have HE2 : Hid (Same mid b f1 f2) := by rw [hf2]; exact Same.refl _ _ _
              have HW3 : Hid (RowF w2 g n f2) := by rw [hf2]; exact HW2.out
              have HG3 := HG2
              clear hf2
              go_wp2_with fail
              go_end0
              exact ⟨rfl, f2, HW3.out, HG3.out, halves_done _ f1 f2 HAL.out.x HE1.out HO1.out HE2.out HO2.out, (HSA.out.trans (HE1.out.wide (Nat.le_refl _) UU.out.2.2.1)).trans (HE2.out.wide UU.out.2.2.2 (Nat.le_refl _))⟩
        · have g_s_m : decide ((s : Int) < (m : Int)) = true := decide_eq_true (by omega)
          have n_s_m : decide (s < m) = true := decide_eq_true (by omega)
          have g_m_e : decide ((m : Int) < (e : Int)) = false := decide_eq_false (by omega)
          have n_m_e : decide (m < e) = false := decide_eq_false (by omega)
          have R1 : Hid (s = m ∨ m = e) := Or.inr (by omega)
          clear r1 r2
          have HW1 : Hid (RowF wr g n (rotF f s m e)) := by rw [rot_none f (by have := UU.out; have := UE.out; omega) (by have := UU.out; have := UE.out; omega) R1.out]; exact HW.out
          have HG1 := HG
          obtain ⟨w1, hw1⟩ : ∃ w1, w1 = wr := ⟨_, rfl⟩
          rw [← hw1] at HW1 HG1 ⊢
          clear hw1
          by_cases r1 : a < s
          · by_cases r2 : s < mid
            · have g_a_s : decide ((a : Int) < (s : Int)) = true := decide_eq_true (by omega)
              have n_a_s : decide (a < s) = true := decide_eq_true (by omega)
              have g_s_mid : decide ((s : Int) < (mid : Int)) = true := decide_eq_true (by omega)
              have n_s_mid : decide (s < mid) = true := decide_eq_true (by omega)
              have R1 := Lib.hid (And.intro r1 r2)
              clear r1 r2
              go_wp2_with fail
              refine (HIH.out a s mid (rotF f s m e) w1 (by have := UU.out; omega) R1.out.1 R1.out.2 (by have := UU.out; omega) (fun i i1 i2 => HV1.out i i1 (by have := UU.out; omega)) HC1.out HAL.out.s1 HAL.out.s2 (HCC.out.inv _ _ HINV.out HG1.out) HW1.out).mono ?_
              rintro e2 w2 ⟨rfl, f1, hw2, hg2, ho1, he1⟩
              have HW2 := Lib.hid hw2
              have HG2 := Lib.hid (gr_trans HG1.out hg2)
              have HO1 := Lib.hid ho1
              have HE1 := Lib.hid he1
              clear hw2 hg2 ho1 he1
              by_cases r1 : mid < e
              · by_cases r2 : e < b
                · have g_mid_e : decide ((mid : Int) < (e : Int)) = true := decide_eq_true (by omega)
                  have n_mid_e : decide (mid < e) = true := decide_eq_true (by omega)
                  have g_e_b : decide ((e : Int) < (b : Int)) = true := decide_eq_true (by omega)
                  have n_e_b : decide (e < b) = true := decide_eq_true (by omega)
                  have R1 := Lib.hid (And.intro r1 r2)
                  clear r1 r2
                  go_wp2_with fail
                  refine (HIH.out mid e b f1 w2 (by have := UU.out; omega) R1.out.1 R1.out.2 hbn (fun i i1 i2 => by rw [HE1.out.out i (by omega)]; exact HV1.out i (by have := UU.out; omega) i2) (fun s' t' h1 h2 h3 h4 => by rw [HE1.out.out s' (by omega), HE1.out.out t' (by have := R1.out; omega)]; exact HC2.out s' t' h1 h2 h3 h4) (sorted_out HE1.out (Nat.le_refl _) HAL.out.s3) (sorted_out HE1.out (Nat.le_of_lt R1.out.1) HAL.out.s4) (HCC.out.inv _ _ HINV.out HG2.out) HW2.out).mono ?_
                  rintro e3 w3 ⟨rfl, f2, hw3, hg3, ho2, he2⟩
                  have HW3 := Lib.hid hw3
                  have HG3 := Lib.hid (gr_trans HG2.out hg3)
                  have HO2 := Lib.hid ho2
                  have HE2 := Lib.hid he2
                  clear hw3 hg3 ho2 he2
                  go_wp2_with fail
                  go_end0
                  exact ⟨rfl, f2, HW3.out, HG3.out, halves_done _ f1 f2 HAL.out.x HE1.out HO1.out HE2.out HO2.out, (HSA.out.trans (HE1.out.wide (Nat.le_refl _) UU.out.2.2.1)).trans (HE2.out.wide UU.out.2.2.2 (Nat.le_refl _))⟩
                · have g_mid_e : decide ((mid : Int) < (e : Int)) = true := decide_eq_true (by omega)
                  have n_mid_e : decide (mid < e) = true := decide_eq_true (by omega)
                  have g_e_b : decide ((e : Int) < (b : Int)) = false := decide_eq_false (by omega)
                  have n_e_b : decide (e < b) = false := decide_eq_false (by omega)
                  have R1 : Hid (mid = e ∨ e = b) := Or.inr (by omega)
                  clear r1 r2
                  have HO2 := Lib.hid (sorted_out HE1.out (Nat.le_refl _) (HD2.out R1.out))
                  obtain ⟨f2, hf2⟩ : ∃ f2, f2 = f1 := ⟨_, rfl⟩
                  rw [← hf2] at HO2
                  have HE2 : Hid (Same mid b f1 f2) := by rw [hf2]; exact Same.refl _ _ _
                  have HW3 : Hid (RowF w2 g n f2) := by rw [hf2]; exact HW2.out
                  have HG3 := HG2
                  clear hf2
                  go_wp2_with fail
                  go_end0
                  exact ⟨rfl, f2, HW3.out, HG3.out, halves_done _ f1 f2 HAL.out.x HE1.out HO1.out HE2.out HO2.out, (HSA.out.trans (HE1.out.wide (Nat.le_refl _) UU.out.2.2.1)).trans (HE2.out.wide UU.out.2.2.2 (Nat.le_refl _))⟩
              · have g_mid_e : decide ((mid : Int) < (e : Int)) = false := decide_eq_false (by omega)
                have n_mid_e : decide (mid < e) = false := decide_eq_false (by omega)
                have R1 : Hid (mid = e ∨ e = b) := Or.inl (by omega)
                clear r1
                have HO2 := Lib.hid (sorted_out HE1.out (Nat.le_refl _) (HD2.out R1.out))
                obtain ⟨f2, hf2⟩ : ∃ f2, f2 = f1 := ⟨_, rfl⟩
                rw [← hf2] at HO2
                have HE2 : Hid (Same mid b f1 f2) := by rw [hf2]; exact Same.refl _ _ _
                have HW3 : Hid (RowF w2 g n f2) := by rw [hf2]; exact HW2.out
                have HG3 := HG2
                clear hf2
                go_wp2_with fail
                go_end0
                exact ⟨rfl, f2, HW3.out, HG3.out, halves_done _ f1 f2 HAL.out.x HE1.out HO1.out HE2.out HO2.out, (HSA.out.trans (HE1.out.wide (Nat.le_refl _) UU.out.2.2.1)).trans (HE2.out.wide UU.out.2.2.2 (Nat.le_refl _))⟩
            · have g_a_s : decide ((a : Int) < (s : Int)) = true := decide_eq_true (by omega)
              have n_a_s : decide (a < s) = true := decide_eq_true (by omega)
              have g_s_mid : decide ((s : Int) < (mid : Int)) = false := decide_eq_false (by omega)
              have n_s_mid : decide (s < mid) = false := decide_eq_false (by omega)
              have R1 : Hid (a = s ∨ s = mid) := Or.inr (by omega)
              clear r1 r2
              have HO1' := HD1.out R1.out
              obtain ⟨f1, hf1⟩ : ∃ f1, f1 = rotF f s m e := ⟨_, rfl⟩
              have HE1 : Hid (Same a mid (rotF f s m e) f1) := by rw [hf1]; exact Same.refl _ _ _
              have HO1 : Hid (SortedOn (ltK k) f1 a mid) := by rw [hf1]; exact HO1'
              have HW2 : Hid (RowF w1 g n f1) := by rw [hf1]; exact HW1.out
              have HG2 := HG1
              obtain ⟨w2, hw2⟩ : ∃ w2, w2 = w1 := ⟨_, rfl⟩
              rw [← hw2] at HW2 HG2 ⊢
              clear hf1 hw2 HO1'
              by_cases r1 : mid < e
              · by_cases r2 : e < b
                · have g_mid_e : decide ((mid : Int) < (e : Int)) = true := decide_eq_true (by omega)
                  have n_mid_e : decide (mid < e) = true := decide_eq_true (by omega)
                  have g_e_b : decide ((e : Int) < (b : Int)) = true := decide_eq_true (by omega)
                  have n_e_b : decide (e < b) = true := decide_eq_true (by omega)
                  have R1 := Lib.hid (And.intro r1 r2)
                  clear r1 r2
                  go_wp2_with fail
                  refine (HIH.out mid e b f1 w2 (by have := UU.out; omega) R1.out.1 R1.out.2 hbn (fun i i1 i2 => by rw [HE1.out.out i (by omega)]; exact HV1.out i (by have := UU.out; omega) i2) (fun s' t' h1 h2 h3 h4 => by rw [HE1.out.out s' (by omega), HE1.out.out t' (by have := R1.out; omega)]; exact HC2.out s' t' h1 h2 h3 h4) (sorted_out HE1.out (Nat.le_refl _) HAL.out.s3) (sorted_out HE1.out (Nat.le_of_lt R1.out.1) HAL.out.s4) (HCC.out.inv _ _ HINV.out HG2.out) HW2.out).mono ?_
                  rintro e3 w3 ⟨rfl, f2, hw3, hg3, ho2, he2⟩
                  have HW3 := Lib.hid hw3
                  have HG3 := Lib.hid (gr_trans HG2.out hg3)
                  have HO2 := Lib.hid ho2
                  have HE2 := Lib.hid he2
                  clear hw3 hg3 ho2 he2
                  go_wp2_with fail
                  go_end0
                  exact ⟨rfl, f2, HW3.out, HG3.out, halves_done _ f1 f2 HAL.out.x HE1.out HO1.out HE2.out HO2.out, (HSA.out.trans (HE1.out.wide (Nat.le_refl _) UU.out.2.2.1)).trans (HE2.out.wide UU.out.2.2.2 (Nat.le_refl _))⟩
                · have g_mid_e : decide ((mid : Int) < (e : Int)) = true := decide_eq_true (by omega)
                  have n_mid_e : decide (mid < e) = true := decide_eq_true (by omega)
                  have g_e_b : decide ((e : Int) < (b : Int)) = false := decide_eq_false (by omega)
                  have n_e_b : decide (e < b) = false := decide_eq_false (by omega)
                  have R1 : Hid (mid = e ∨ e = b) := Or.inr (by omega)
                  clear r1 r2
                  have HO2 := Lib.hid (sorted_out HE1.out (Nat.le_refl _) (HD2.out R1.out))
                  obtain ⟨f2, hf2⟩ : ∃ f2, f2 = f1 := ⟨_, rfl⟩
                  rw [← hf2] at HO2
                  have HE2 : Hid (Same mid b f1 f2) := by rw [hf2]; exact Same.refl _ _ _
                  have HW3 : Hid (RowF w2 g n f2) := by rw [hf2]; exact HW2.out
                  have HG3 := HG2
                  clear hf2
                  go_wp2_with fail
                  go_end0
                  exact ⟨rfl, f2, HW3.out, HG3.out, halves_done _ f1 f2 HAL.out.x HE1.out HO1.out HE2.out HO2.out, (HSA.out.trans (HE1.out.wide (Nat.le_refl _) UU.out.2.2.1)).trans (HE2.out.wide UU.out.2.2.2 (Nat.le_refl _))⟩
              · have g_mid_e : decide ((mid : Int) < (e : Int)) = false := decide_eq_false (by omega)
                have n_mid_e : decide (mid < e) = false := decide_eq_false (by omega)
                have R1 : Hid (mid = e ∨ e = b) := Or.inl (by omega)
                clear r1
                have HO2 := Lib.hid (sorted_out HE1.out (Nat.le_refl _) (HD2.out R1.out))
                obtain ⟨f2, hf2⟩ : ∃ f2, f2 = f1 := ⟨_, rfl⟩
                rw [← hf2] at HO2
                have HE2 : Hid (Same mid b f1 f2) := by rw [hf2]; exact Same.refl _ _ _
                have HW3 : Hid (RowF w2 g n f2) := by rw [hf2]; exact HW2.out
                have HG3 := HG2
                clear hf2
                go_wp2_with fail
                go_end0
                exact ⟨rfl, f2, HW3.out, HG3.out, halves_done _ f1 f2 HAL.out.x HE1.out HO1.out HE2.out HO2.out, (HSA.out.trans (HE1.out.wide (Nat.le_refl _) UU.out.2.2.1)).trans (HE2.out.wide UU.out.2.2.2 (Nat.le_refl _))⟩
          · have g_a_s : decide ((a : Int) < (s : Int)) = false := decide_eq_false (by omega)
            have n_a_s : decide (a < s) = false := decide_eq_false (by omega)
            have R1 : Hid (a = s ∨ s = mid) := Or.inl (by omega)
            clear r1
            have HO1' := HD1.out R1.out
            obtain ⟨f1, hf1⟩ : ∃ f1, f1 = rotF f s m e := ⟨_, rfl⟩
            have HE1 : Hid (Same a mid (rotF f s m e) f1) := by rw [hf1]; exact Same.refl _ _ _
            have HO1 : Hid (SortedOn (ltK k) f1 a mid) := by rw [hf1]; exact HO1'
            have HW2 : Hid (RowF w1 g n f1) := by rw [hf1]; exact HW1.out
            have HG2 := HG1
            obtain ⟨w2, hw2⟩ : ∃ w2, w2 = w1 := ⟨_, rfl⟩
            rw [← hw2] at HW2 HG2 ⊢
            clear hf1 hw2 HO1'
            by_cases r1 : mid < e
            · by_cases r2 : e < b
              · have g_mid_e : decide ((mid : Int) < (e : Int)) = true := decide_eq_true (by omega)
                have n_mid_e : decide (mid < e) = true := decide_eq_true (by omega)
                have g_e_b : decide ((e : Int) < (b : Int)) = true := decide_eq_true (by omega)
                have n_e_b : decide (e < b) = true := decide_eq_true (by omega)
                have R1 := Lib.hid (And.intro r1 r2)
                clear r1 r2
                go_wp2_with fail
                refine (HIH.out mid e b f1 w2 (by have := UU.out; omega) R1.out.1 R1.out.2 hbn (fun i i1 i2 => by rw [HE1.out.out i (by omega)]; exact HV1.out i (by have := UU.out; omega) i2) (fun s' t' h1 h2 h3 h4 => by rw [HE1.out.out s' (by omega), HE1.out.out t' (by have := R1.out; omega)]; exact HC2.out s' t' h1 h2 h3 h4) (sorted_out HE1.out (Nat.le_refl _) HAL.out.s3) (sorted_out HE1.out (Nat.le_of_lt R1.out.1) HAL.out.s4) (HCC.out.inv _ _ HINV.out HG2.out) HW2.out).mono ?_
                rintro e3 w3 ⟨rfl, f2, hw3, hg3, ho2, he2⟩
                have HW3 := Lib.hid hw3
                have HG3 := Lib.hid (gr_trans HG2.out hg3)
                have HO2 := Lib.hid ho2
                have HE2 := Lib.hid he2
                clear hw3 hg3 ho2 he2
                go_wp2_with fail
                go_end0
                exact ⟨rfl, f2, HW3.out, HG3.out, halves_done _ f1 f2 HAL.out.x HE1.out HO1.out HE2.out HO2.out, (HSA.out.trans (HE1.out.wide (Nat.le_refl _) UU.out.2.2.1)).trans (HE2.out.wide UU.out.2.2.2 (Nat.le_refl _))⟩
              · have g_mid_e : decide ((mid : Int) < (e : Int)) = true := decide_eq_true (by omega)
                have n_mid_e : decide (mid < e) = true := decide_eq_true (by omega)
                have g_e_b : decide ((e : Int) < (b : Int)) = false := decide_eq_false (by omega)
                have n_e_b : decide (e < b) = false := decide_eq_false (by omega)
                have R1 : Hid (mid = e ∨ e = b) := Or.inr (by omega)
                clear r1 r2
                have HO2 := Lib.hid (sorted_out HE1.out (Nat.le_refl _) (HD2.out R1.out))
                obtain ⟨f2, hf2⟩ : ∃ f2, f2 = f1 := ⟨_, rfl⟩
                rw [← hf2] at HO2
                have HE2 : Hid (Same mid b f1 f2) := by rw [hf2]; exact Same.refl _ _ _
                have HW3 : Hid (RowF w2 g n f2) := by rw [hf2]; exact HW2.out
                have HG3 := HG2
                clear hf2
                go_wp2_with fail
                go_end0
                exact ⟨rfl, f2, HW3.out, HG3.out, halves_done _ f1 f2 HAL.out.x HE1.out HO1.out HE2.out HO2.out, (HSA.out.trans (HE1.out.wide (Nat.le_refl _) UU.out.2.2.1)).trans (HE2.out.wide UU.out.2.2.2 (Nat.le_refl _))⟩
            · have g_mid_e : decide ((mid : Int) < (e : Int)) = false := decide_eq_false (by omega)
              have n_mid_e : decide (mid < e) = false := decide_eq_false (by omega)
              have R1 : Hid (mid = e ∨ e = b) := Or.inl (by omega)
              clear r1
              have HO2 := Lib.hid (sorted_out HE1.out (Nat.le_refl _) (HD2.out R1.out))
              obtain ⟨f2, hf2⟩ : ∃ f2, f2 = f1 := ⟨_, rfl⟩
              rw [← hf2] at HO2
              have HE2 : Hid (Same mid b f1 f2) := by rw [hf2]; exact Same.refl _ _ _
              have HW3 : Hid (RowF w2 g n f2) := by rw [hf2]; exact HW2.out
              have HG3 := HG2
              clear hf2
              go_wp2_with fail
              go_end0
              exact ⟨rfl, f2, HW3.out, HG3.out, halves_done _ f1 f2 HAL.out.x HE1.out HO1.out HE2.out HO2.out, (HSA.out.trans (HE1.out.wide (Nat.le_refl _) UU.out.2.2.1)).trans (HE2.out.wide UU.out.2.2.2 (Nat.le_refl _))⟩
      · have g_s_m : decide ((s : Int) < (m : Int)) = false := decide_eq_false (by omega)
        have n_s_m : decide (s < m) = false := decide_eq_false (by omega)
        have R1 : Hid (s = m ∨ m = e) := Or.inl (by omega)
        clear r1
        have HW1 : Hid (RowF wr g n (rotF f s m e)) := by rw [rot_none f (by have := UU.out; have := UE.out; omega) (by have := UU.out; have := UE.out; omega) R1.out]; exact HW.out
        have HG1 := HG
        obtain ⟨w1, hw1⟩ : ∃ w1, w1 = wr := ⟨_, rfl⟩
        rw [← hw1] at HW1 HG1 ⊢
        clear hw1
        by_cases r1 : a < s
        · by_cases r2 : s < mid
          · have g_a_s : decide ((a : Int) < (s : Int)) = true := decide_eq_true (by omega)
            have n_a_s : decide (a < s) = true := decide_eq_true (by omega)
            have g_s_mid : decide ((s : Int) < (mid : Int)) = true := decide_eq_true (by omega)
            have n_s_mid : decide (s < mid) = true := decide_eq_true (by omega)
            have R1 := Lib.hid (And.intro r1 r2)
            clear r1 r2
            go_wp2_with fail
            refine (HIH.out a s mid (rotF f s m e) w1 (by have := UU.out; omega) R1.out.1 R1.out.2 (by have := UU.out; omega) (fun i i1 i2 => HV1.out i i1 (by have := UU.out; omega)) HC1.out HAL.out.s1 HAL.out.s2 (HCC.out.inv _ _ HINV.out HG1.out) HW1.out).mono ?_
            rintro e2 w2 ⟨rfl, f1, hw2, hg2, ho1, he1⟩
            have HW2 := Lib.hid hw2
            have HG2 := Lib.hid (gr_trans HG1.out hg2)
            have HO1 := Lib.hid ho1
            have HE1 := Lib.hid he1
            clear hw2 hg2 ho1 he1
            by_cases r1 : mid < e
            · by_cases r2 : e < b
              · have g_mid_e : decide ((mid : Int) < (e : Int)) = true := decide_eq_true (by omega)
                have n_mid_e : decide (mid < e) = true := decide_eq_true (by omega)
                have g_e_b : decide ((e : Int) < (b : Int)) = true := decide_eq_true (by omega)
                have n_e_b : decide (e < b) = true := decide_eq_true (by omega)
                have R1 := Lib.hid (And.intro r1 r2)
                clear r1 r2
                go_wp2_with fail
                refine (HIH.out mid e b f1 w2 (by have := UU.out; omega) R1.out.1 R1.out.2 hbn (fun i i1 i2 => by rw [HE1.out.out i (by omega)]; exact HV1.out i (by have := UU.out; omega) i2) (fun s' t' h1 h2 h3 h4 => by rw [HE1.out.out s' (by omega), HE1.out.out t' (by have := R1.out; omega)]; exact HC2.out s' t' h1 h2 h3 h4) (sorted_out HE1.out (Nat.le_refl _) HAL.out.s3) (sorted_out HE1.out (Nat.le_of_lt R1.out.1) HAL.out.s4) (HCC.out.inv _ _ HINV.out HG2.out) HW2.out).mono ?_
                rintro e3 w3 ⟨rfl, f2, hw3, hg3, ho2, he2⟩
                have HW3 := Lib.hid hw3
                have HG3 := Lib.hid (gr_trans HG2.out hg3)
                have HO2 := Lib.hid ho2
                have HE2 := Lib.hid he2
                clear hw3 hg3 ho2 he2
                go_wp2_with fail
                go_end0
                exact ⟨rfl, f2, HW3.out, HG3.out, halves_done _ f1 f2 HAL.out.x HE1.out HO1.out HE2.out HO2.out, (HSA.out.trans (HE1.out.wide (Nat.le_refl _) UU.out.2.2.1)).trans (HE2.out.wide UU.out.2.2.2 (Nat.le_refl _))⟩
              · have g_mid_e : decide ((mid : Int) < (e : Int)) = true := decide_eq_true (by omega)
                have n_mid_e : decide (mid < e) = true := decide_eq_true (by omega)
                have g_e_b : decide ((e : Int) < (b : Int)) = false := decide_eq_false (by omega)
                have n_e_b : decide (e < b) = false := decide_eq_false (by omega)
                have R1 : Hid (mid = e ∨ e = b) := Or.inr (by omega)
                clear r1 r2
                have HO2 := Lib.hid (sorted_out HE1.out (Nat.le_refl _) (HD2.out R1.out))
                obtain ⟨f2, hf2⟩ : ∃ f2, f2 = f1 := ⟨_, rfl⟩
                rw [← hf2] at HO2
                have HE2 : Hid (Same mid b f1 f2) := by rw [hf2]; exact Same.refl _ _ _
                have HW3 : Hid (RowF w2 g n f2) := by rw [hf2]; exact HW2.out
                have HG3 := HG2
                clear hf2
                go_wp2_with fail
                go_end0
                exact ⟨rfl, f2, HW3.out, HG3.out, halves_done _ f1 f2 HAL.out.x HE1.out HO1.out HE2.out HO2.out, (HSA.out.trans (HE1.out.wide (Nat.le_refl _) UU.out.2.2.1)).trans (HE2.out.wide UU.out.2.2.2 (Nat.le_refl _))⟩
            · have g_mid_e : decide ((mid : Int) < (e : Int)) = false := decide_eq_false (by omega)
              have n_mid_e : decide (mid < e) = false := decide_eq_false (by omega)
              have R1 : Hid (mid = e ∨ e = b) := Or.inl (by omega)
              clear r1
              have HO2 := Lib.hid (sorted_out HE1.out (Nat.le_refl _) (HD2.out R1.out))
              obtain ⟨f2, hf2⟩ : ∃ f2, f2 = f1 := ⟨_, rfl⟩
              rw [← hf2] at HO2
              have HE2 : Hid (Same mid b f1 f2) := by rw [hf2]; exact Same.refl _ _ _
              have HW3 : Hid (RowF w2 g n f2) := by rw [hf2]; exact HW2.out
              have HG3 := HG2
              clear hf2
              go_wp2_with fail
              go_end0
              exact ⟨rfl, f2, HW3.out, HG3.out, halves_done _ f1 f2 HAL.out.x HE1.out HO1.out HE2.out HO2.out, (HSA.out.trans (HE1.out.wide (Nat.le_refl _) UU.out.2.2.1)).trans (HE2.out.wide UU.out.2.2.2 (Nat.le_refl _))⟩
          · have g_a_s : decide ((a : Int) < (s : Int)) = true := decide_eq_true (by omega)
            have n_a_s : decide (a < s) = true := decide_eq_true (by omega)
            have g_s_mid : decide ((s : Int) < (mid : Int)) = false := decide_eq_false (by omega)
            have n_s_mid : decide (s < mid) = false := decide_eq_false (by omega)
            have R1 : Hid (a = s ∨ s = mid) := Or.inr (by omega)
            clear r1 r2
            have HO1' := HD1.out R1.out
            obtain ⟨f1, hf1⟩ : ∃ f1, f1 = rotF f s m e := ⟨_, rfl⟩
            have HE1 : Hid (Same a mid (rotF f s m e) f1) := by rw [hf1]; exact Same.refl _ _ _
            have HO1 : Hid (SortedOn (ltK k) f1 a mid) := by rw [hf1]; exact HO1'
            have HW2 : Hid (RowF w1 g n f1) := by rw [hf1]; exact HW1.out
            have HG2 := HG1
            obtain ⟨w2, hw2⟩ : ∃ w2, w2 = w1 := ⟨_, rfl⟩
            rw [← hw2] at HW2 HG2 ⊢
            clear hf1 hw2 HO1'
            by_cases r1 : mid < e
            · by_cases r2 : e < b
              · have g_mid_e : decide ((mid : Int) < (e : Int)) = true := decide_eq_true (by omega)
                have n_mid_e : decide (mid < e) = true := decide_eq_true (by omega)
                have g_e_b : decide ((e : Int) < (b : Int)) = true := decide_eq_true (by omega)
                have n_e_b : decide (e < b) = true := decide_eq_true (by omega)
                have R1 := Lib.hid (And.intro r1 r2)
                clear r1 r2
                go_wp2_with fail
                refine (HIH.out mid e b f1 w2 (by have := UU.out; omega) R1.out.1 R1.out.2 hbn (fun i i1 i2 => by rw [HE1.out.out i (by omega)]; exact HV1.out i (by have := UU.out; omega) i2) (fun s' t' h1 h2 h3 h4 => by rw [HE1.out.out s' (by omega), HE1.out.out t' (by have := R1.out; omega)]; exact HC2.out s' t' h1 h2 h3 h4) (sorted_out HE1.out (Nat.le_refl _) HAL.out.s3) (sorted_out HE1.out (Nat.le_of_lt R1.out.1) HAL.out.s4) (HCC.out.inv _ _ HINV.out HG2.out) HW2.out).mono ?_
                rintro e3 w3 ⟨rfl, f2, hw3, hg3, ho2, he2⟩
                have HW3 := Lib.hid hw3
                have HG3 := Lib.hid (gr_trans HG2.out hg3)
                have HO2 := Lib.hid ho2
                have HE2 := Lib.hid he2
                clear hw3 hg3 ho2 he2
                go_wp2_with fail
                go_end0
                exact ⟨rfl, f2, HW3.out, HG3.out, halves_done _ f1 f2 HAL.out.x HE1.out HO1.out HE2.out HO2.out, (HSA.out.trans (HE1.out.wide (Nat.le_refl _) UU.out.2.2.1)).trans (HE2.out.wide UU.out.2.2.2 (Nat.le_refl _))⟩
              · have g_mid_e : decide ((mid : Int) < (e : Int)) = true := decide_eq_true (by omega)
                have n_mid_e : decide (mid < e) = true := decide_eq_true (by omega)
                have g_e_b : decide ((e : Int) < (b : Int)) = false := decide_eq_false (by omega)
                have n_e_b : decide (e < b) = false := decide_eq_false (by omega)
                have R1 : Hid (mid = e ∨ e = b) := Or.inr (by omega)
                clear r1 r2
                have HO2 := Lib.hid (sorted_out HE1.out (Nat.le_refl _) (HD2.out R1.out))
                obtain ⟨f2, hf2⟩ : ∃ f2, f2 = f1 := ⟨_, rfl⟩
                rw [← hf2] at HO2
                have HE2 : Hid (Same mid b f1 f2) := by rw [hf2]; exact Same.refl _ _ _
                have HW3 : Hid (RowF w2 g n f2) := by rw [hf2]; exact HW2.out
                have HG3 := HG2
                clear hf2
                go_wp2_with fail
                go_end0
                exact ⟨rfl, f2, HW3.out, HG3.out, halves_done _ f1 f2 HAL.out.x HE1.out HO1.out HE2.out HO2.out, (HSA.out.trans (HE1.out.wide (Nat.le_refl _) UU.out.2.2.1)).trans (HE2.out.wide UU.out.2.2.2 (Nat.le_refl _))⟩
            · have g_mid_e : decide ((mid : Int) < (e : Int)) = false := decide_eq_false (by omega)
              have n_mid_e : decide (mid < e) = false := decide_eq_false (by omega)
              have R1 : Hid (mid = e ∨ e = b) := Or.inl (by omega)
              clear r1
              have HO2 := Lib.hid (sorted_out HE1.out (Nat.le_refl _) (HD2.out R1.out))
              obtain ⟨f2, hf2⟩ : ∃ f2, f2 = f1 := ⟨_, rfl⟩
              rw [← hf2] at HO2
              have HE2 : Hid (Same mid b f1 f2) := by rw [hf2]; exact Same.refl _ _ _
              have HW3 : Hid (RowF w2 g n f2) := by rw [hf2]; exact HW2.out
              have HG3 := HG2
              clear hf2
              go_wp2_with fail
              go_end0
              exact ⟨rfl, f2, HW3.out, HG3.out, halves_done _ f1 f2 HAL.out.x HE1.out HO1.out HE2.out HO2.out, (HSA.out.trans (HE1.out.wide (Nat.le_refl _) UU.out.2.2.1)).trans (HE2.out.wide UU.out.2.2.2 (Nat.le_refl _))⟩
        · have g_a_s : decide ((a : Int) < (s : Int)) = false := decide_eq_false (by omega)
          have n_a_s : decide (a < s) = false := decide_eq_false (by omega)
          have R1 : Hid (a = s ∨ s = mid) := Or.inl (by omega)
          clear r1
          have HO1' := HD1.out R1.out
          obtain ⟨f1, hf1⟩ : ∃ f1, f1 = rotF f s m e := ⟨_, rfl⟩
          have HE1 : Hid (Same a mid (rotF f s m e) f1) := by rw [hf1]; exact Same.refl _ _ _
          have HO1 : Hid (SortedOn (ltK k) f1 a mid) := by rw [hf1]; exact HO1'
          have HW2 : Hid (RowF w1 g n f1) := by rw [hf1]; exact HW1.out
          have HG2 := HG1
          obtain ⟨w2, hw2⟩ : ∃ w2, w2 = w1 := ⟨_, rfl⟩
          rw [← hw2] at HW2 HG2 ⊢
          clear hf1 hw2 HO1'
          by_cases r1 : mid < e
          · by_cases r2 : e < b
            · have g_mid_e : decide ((mid : Int) < (e : Int)) = true := decide_eq_true (by omega)
              have n_mid_e : decide (mid < e) = true := decide_eq_true (by omega)
              have g_e_b : decide ((e : Int) < (b : Int)) = true := decide_eq_true (by omega)
              have n_e_b : decide (e < b) = true := decide_eq_true (by omega)
              have R1 := Lib.hid (And.intro r1 r2)
              clear r1 r2
              go_wp2_with fail
              refine (HIH.out mid e b f1 w2 (by have := UU.out; omega) R1.out.1 R1.out.2 hbn (fun i i1 i2 => by rw [HE1.out.out i (by omega)]; exact HV1.out i (by have := UU.out; omega) i2) (fun s' t' h1 h2 h3 h4 => by rw [HE1.out.out s' (by omega), HE1.out.out t' (by have := R1.out; omega)]; exact HC2.out s' t' h1 h2 h3 h4) (sorted_out HE1.out (Nat.le_refl _) HAL.out.s3) (sorted_out HE1.out (Nat.le_of_lt R1.out.1) HAL.out.s4) (HCC.out.inv _ _ HINV.out HG2.out) HW2.out).mono ?_
              rintro e3 w3 ⟨rfl, f2, hw3, hg3, ho2, he2⟩
              have HW3 := Lib.hid hw3
              have HG3 := Lib.hid (gr_trans HG2.out hg3)
              have HO2 := Lib.hid ho2
              have HE2 := Lib.hid he2
              clear hw3 hg3 ho2 he2
              go_wp2_with fail
              go_end0
              exact ⟨rfl, f2, HW3.out, HG3.out, halves_done _ f1 f2 HAL.out.x HE1.out HO1.out HE2.out HO2.out, (HSA.out.trans (HE1.out.wide (Nat.le_refl _) UU.out.2.2.1)).trans (HE2.out.wide UU.out.2.2.2 (Nat.le_refl _))⟩
            · have g_mid_e : decide ((mid : Int) < (e : Int)) = true := decide_eq_true (by omega)
              have n_mid_e : decide (mid < e) = true := decide_eq_true (by omega)
              have g_e_b : decide ((e : Int) < (b : Int)) = false := decide_eq_false (by omega)
              have n_e_b : decide (e < b) = false := decide_eq_false (by omega)
              have R1 : Hid (mid = e ∨ e = b) := Or.inr (by omega)
              clear r1 r2
              have HO2 := Lib.hid (sorted_out HE1.out (Nat.le_refl _) (HD2.out R1.out))
              obtain ⟨f2, hf2⟩ : ∃ f2, f2 = f1 := ⟨_, rfl⟩
              rw [← hf2] at HO2
              have HE2 : Hid (Same mid b f1 f2) := by rw [hf2]; exact Same.refl _ _ _
              have HW3 : Hid (RowF w2 g n f2) := by rw [hf2]; exact HW2.out
              have HG3 := HG2
              clear hf2
              go_wp2_with fail
              go_end0
              exact ⟨rfl, f2, HW3.out, HG3.out, halves_done _ f1 f2 HAL.out.x HE1.out HO1.out HE2.out HO2.out, (HSA.out.trans (HE1.out.wide (Nat.le_refl _) UU.out.2.2.1)).trans (HE2.out.wide UU.out.2.2.2 (Nat.le_refl _))⟩
          · have g_mid_e : decide ((mid : Int) < (e : Int)) = false := decide_eq_false (by omega)
            have n_mid_e : decide (mid < e) = false := decide_eq_false (by omega)
            have R1 : Hid (mid = e ∨ e = b) := Or.inl (by omega)
            clear r1
            have HO2 := Lib.hid (sorted_out HE1.out (Nat.le_refl _) (HD2.out R1.out))
            obtain ⟨f2, hf2⟩ : ∃ f2, f2 = f1 := ⟨_, rfl⟩
            rw [← hf2] at HO2
            have HE2 : Hid (Same mid b f1 f2) := by rw [hf2]; exact Same.refl _ _ _
            have HW3 : Hid (RowF w2 g n f2) := by rw [hf2]; exact HW2.out
            have HG3 := HG2
            clear hf2
            go_wp2_with fail
            go_end0
            exact ⟨rfl, f2, HW3.out, HG3.out, halves_done _ f1 f2 HAL.out.x HE1.out HO1.out HE2.out HO2.out, (HSA.out.trans (HE1.out.wide (Nat.le_refl _) UU.out.2.2.1)).trans (HE2.out.wide UU.out.2.2.2 (Nat.le_refl _))⟩
end Go.Proofs.Ytncbieaobadekaa
