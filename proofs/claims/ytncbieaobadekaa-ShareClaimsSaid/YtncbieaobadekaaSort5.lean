/- symMerge of Go's package slices, where one of the two stretches is one number. -/
import Derived.Test.YtncbieaobadekaaSort4
namespace Go.Proofs.Ytncbieaobadekaa
open Go.ChangeShapes Go.WideShapes Go.ChangeAt Go.RowKit
/-- The number at a, brought up to k. -/
def upF (f : Nat → Int) (a k : Nat) : Nat → Int := fun t => if t = k then f a else if a ≤ t ∧ t < k then f (t + 1) else f t
theorem upF_self (f : Nat → Int) (a : Nat) : upF f a a = f := by
  funext t
  unfold upF
  repeat' split
  all_goals first | rfl | (exfalso; omega) | (congr 1; omega)
theorem upF_next (f : Nat → Int) (a k : Nat) (h : a ≤ k) : put (put (upF f a k) k (f (k + 1))) (k + 1) (f a) = upF f a (k + 1) := by
  funext t
  unfold put upF
  repeat' split
  all_goals first | rfl | (exfalso; omega) | (congr 1; omega)
theorem upF_same (f : Nat → Int) (a b k : Nat) (h1 : a ≤ k) (h2 : k < b) : Same a b f (upF f a k) := by
  refine ⟨fun t ht => ?_, fun t t1 t2 => ?_, fun t t1 t2 => ?_⟩
  · unfold upF
    rw [if_neg (by omega), if_neg (by omega)]
  · unfold upF
    split
    · exact ⟨a, by omega, by omega, rfl⟩
    · split
      · exact ⟨t + 1, by omega, by omega, rfl⟩
      · exact ⟨t, by omega, by omega, rfl⟩
  · by_cases c : t = a
    · subst c
      exact ⟨k, by omega, by omega, by unfold upF; rw [if_pos rfl]⟩
    · by_cases c2 : t ≤ k
      · exact ⟨t - 1, by omega, by omega, by unfold upF; rw [if_neg (by omega), if_pos (by omega)]; congr 1; omega⟩
      · exact ⟨t, by omega, by omega, by unfold upF; rw [if_neg (by omega), if_neg (by omega)]⟩
theorem upF_sorted {lt : Int → Int → Prop} (f : Nat → Int) (a b i : Nat) (h1 : a < i) (h2 : i ≤ b) (hs : SortedOn lt f (a + 1) b)
    (hlo : ∀ t, a < t → t < i → lt (f t) (f a)) (hhi : ∀ t, i ≤ t → t < b → lt (f a) (f t)) : SortedOn lt (upF f a (i - 1)) a b := by
  intro s t s1 s2 s3
  unfold upF
  by_cases c1 : t < i - 1
  · rw [if_neg (by omega), if_pos (by omega), if_neg (by omega), if_pos (by omega)]
    exact hs _ _ (by omega) (by omega) (by omega)
  · by_cases c2 : t = i - 1
    · rw [if_neg (by omega), if_pos (by omega), if_pos c2]
      exact hlo _ (by omega) (by omega)
    · by_cases c3 : s = i - 1
      · rw [if_pos c3, if_neg c2, if_neg (by omega)]
        exact hhi _ (by omega) (by omega)
      · by_cases c4 : s < i - 1
        · rw [if_neg c3, if_pos (by omega), if_neg c2, if_neg (by omega)]
          exact hs _ _ (by omega) (by omega) (by omega)
        · rw [if_neg c3, if_neg (by omega), if_neg c2, if_neg (by omega)]
          exact hs _ _ (by omega) (by omega) (by omega)
set_option maxRecDepth 100000 in
set_option maxHeartbeats 4000000 in
theorem sym_left {V : Int → Prop} {cf : Int → Int → Int} {Inv : World → Prop} {k : Int → Int → Prop} (gf : Nat) (caps : Array Value) (f : Nat → Int) (g n cap a b : Nat) (HC : CmpOk gf caps g V cf Inv) (hk : SWO k) (hcf : ∀ x y, V x → V y → (cf x y < 0 ↔ k x y))
    (hab : a + 1 < b) (hbn : b ≤ n) (hn : n ≤ 1000000) (hV : ∀ i, a ≤ i → i < b → V (f i)) (hcr : ∀ t, a < t → t < b → f a < f t) (hs : SortedOn (ltK k) f (a + 1) b) (w : World) (hI : Inv w) (h : RowF w g n f) :
    Calls Try.prog 119 #[.slice (some ⟨g, 0, none⟩) n cap, .int .i64 a, .int .i64 ((a : Int) + 1), .int .i64 b, .func (.func gf) #[] caps] w (Sorts (ltK k) g n f a b w) := by
  have a1 : (a : Int) + 1 < b := by omega
  have a4 : (b : Int) ≤ n := by omega
  have a5 : (n : Int) ≤ 1000000 := by omega
  have d28 : (((a : Int) + 1 - (a : Int)) == 1) = true := by rw [beq_iff_eq]; omega
  have HINV := Lib.hid hI
  have eg := HC.enter
  have HCC := Lib.hid HC
  have HK := Lib.hid (And.intro hk hcf)
  have HVV := Lib.hid hV
  have HCR := Lib.hid hcr
  have HS := Lib.hid hs
  have HR := Lib.hid h
  clear h hI HC hk hcf hV hcr hs
  go_enter Try.func119, Try.ntmps119
  go_wp2_with fail
  go_loopw [10, 11] (fun iv jv wr => ∃ (i j : Nat), iv = .int .i64 (i : Nat) ∧ jv = .int .i64 (j : Nat) ∧ a < i ∧ i ≤ j ∧ j ≤ b ∧ RowF wr g n f ∧ Gr g w wr ∧ (∀ t, a < t → t < i → ltK k (f t) (f a)) ∧ (∀ t, j ≤ t → t < b → ltK k (f a) (f t))) (fun iv jv _ => (intOf jv).toNat - (intOf iv).toNat)
  case atStart => exact ⟨a + 1, b, by go_num, rfl, by omega, by omega, Nat.le_refl _, HR.out, gr_refl _ _, fun t _ _ => by omega, fun t _ _ => by omega⟩
  case round =>
    obtain ⟨i, j, rfl, rfl, hai, hij, hjb, hrow, hgr, hlo, hhi⟩ := hrel
    have HW := Lib.hid hrow
    have HG := Lib.hid hgr
    have HLO := Lib.hid hlo
    have HHI := Lib.hid hhi
    have ai2 : (a : Int) < i := by omega
    have ij2 : (i : Int) ≤ j := by omega
    have jb2 : (j : Int) ≤ b := by omega
    clear hgr hlo hhi
    by_cases hlt : i < j
    · have hlt2 : (i : Int) < j := by omega
      go_upto_region 5 with (fail)
      obtain ⟨h, hh⟩ : ∃ h : Nat, h = (i + j) / 2 := ⟨_, rfl⟩
      rw [show ((i : Int) + (j : Int)) / 2 = ((h : Nat) : Int) from by omega]
      have h1 : i ≤ h := by omega
      have h2 : h < j := by omega
      have h3 : (h : Int) < n := by omega
      clear hh
      have c1 := hrow.cell h (by omega)
      have c2 := hrow.cell a (by omega)
      have hvx : V (f h) := HVV.out h (by omega) (by omega)
      have hvy : V (f a) := HVV.out a (by omega) (by omega)
      have hcmp := fun q => HCC.out.calls (wr.drewN q) (HCC.out.draws _ _ (HCC.out.inv _ _ HINV.out HG.out)) (f h) (f a) hvx hvy
      have HCMP := Lib.hid hcmp
      have hxy := HCR.out h (by omega) (by omega)
      have hlk := (ltK_late (k := k) hxy).trans (HK.out.2 _ _ hvx hvy).symm
      obtain ⟨x, hx⟩ : ∃ x, f h = x := ⟨_, rfl⟩
      obtain ⟨y, hy⟩ : ∃ y, f a = y := ⟨_, rfl⟩
      rw [hx] at c1 hlk HCMP
      rw [hy] at c2 hlk HCMP
      have HX := Lib.hid hx
      have HY := Lib.hid hy
      have HXY := Lib.hid hxy
      clear hcmp hrow hx hy hxy hvx hvy
      obtain ⟨c, hc⟩ : ∃ c, cf x y = c := ⟨_, rfl⟩
      rw [hc] at HCMP hlk
      clear hc
      by_cases hneg : c < 0
      · have HLT : Hid (ltK k (f h) (f a)) := by
          show ltK k (f h) (f a)
          rw [HX.out, HY.out]
          exact hlk.2 hneg
        clear hlk
        go_wp2_with fail
        go_quiet ((go_at_fn gf; exact Calls.quiet_of (HCMP.out _)))
        go_wp2_with fail
        go_roundw
        case rel => exact ⟨h + 1, j, by go_num, rfl, by omega, by omega, by omega, HW.out, ⟨HG.out.os, HG.out.tape, HG.out.output, HG.out.size, HG.out.block⟩, fun t t1 t2 => by
            by_cases ht : t = h
            · rw [ht]; exact HLT.out
            · exact ltK_trans HK.out.1 (HS.out t h (by omega) (by omega) (by omega)) HLT.out, HHI.out⟩
        case measure => simp [intOf]; omega
      · have HGE : Hid (ltK k (f a) (f h)) := ltK_total HK.out.1 (by rw [HX.out, HY.out]; exact fun hq => hneg (hlk.1 hq)) (by have := HXY.out; omega)
        clear hlk
        go_wp2_with fail
        go_quiet ((go_at_fn gf; exact Calls.quiet_of (HCMP.out _)))
        go_wp2_with fail
        go_roundw
        case rel => exact ⟨i, h, rfl, rfl, by omega, by omega, by omega, HW.out, ⟨HG.out.os, HG.out.tape, HG.out.output, HG.out.size, HG.out.block⟩, HLO.out, fun t t1 t2 => by
            by_cases ht : t = h
            · rw [ht]; exact HGE.out
            · exact ltK_trans HK.out.1 HGE.out (HS.out h t (by omega) (by omega) (by omega))⟩
        case measure => simp [intOf]; omega
    · obtain rfl : i = j := by omega
      have HSO := Lib.hid (upF_sorted (lt := ltK k) f a b i (by omega) (by omega) HS.out HLO.out HHI.out)
      have HSM := Lib.hid (upF_same f a b (i - 1) (by omega) (by omega))
      clear hrow HLO HHI hlt hij ij2
      go_wp2_with fail
      go_loopw [13] (fun kv wr => ∃ q : Nat, kv = .int .i64 (q : Nat) ∧ a ≤ q ∧ q + 1 ≤ i ∧ RowF wr g n (upF f a q) ∧ Gr g w wr) (fun kv _ => i - (intOf kv).toNat)
      case atStart => exact ⟨a, rfl, Nat.le_refl _, by omega, by rw [upF_self]; exact HW.out, HG.out⟩
      case round =>
        clear HW HG
        obtain ⟨q, rfl, haq, hqi, hrow, hgr⟩ := hrel
        have HW := Lib.hid hrow
        have HG := Lib.hid hgr
        have q1 : (a : Int) ≤ q := by omega
        have q2 : (q : Int) + 1 ≤ i := by omega
        clear hgr
        by_cases hlt : q + 1 < i
        · have hlt2 : (q : Int) < (i : Int) - 1 := by omega
          have c1 := hrow.cell q (by omega)
          have c2 := hrow.cell (q + 1) (by omega)
          have e1 := hrow.free q
          have e2 := hrow.free (q + 1)
          rw [show upF f a q q = f a from by unfold upF; rw [if_pos rfl]] at c1
          rw [show upF f a q (q + 1) = f (q + 1) from by unfold upF; rw [if_neg (by omega), if_neg (by omega)]] at c2
          have HN := Lib.hid (upF_next f a q haq)
          have HPC := Lib.hid (put_comm (upF f a q) q (q + 1) (f (q + 1)) (f a) (by omega))
          generalize f (q + 1) = y at *
          generalize f a = x at *
          clear hrow
          go_wp2_with fail
          go_region
          all_goals
            go_wp2
            go_roundw
            case rel =>
              refine ⟨q + 1, by go_num, by omega, by omega, ?_, ?_⟩
              · rw [← HN.out]
                first
                  | exact (HW.out.store q y).store (q + 1) x
                  | (rw [HPC.out]; exact (HW.out.store (q + 1) x).store q y)
              · exact gr_drew (gr_set (gr_set HG.out _ _) _ _)
            case measure => simp [intOf]; omega
        · obtain rfl : q = i - 1 := by omega
          have hlt2 : ¬ ((i - 1 : Nat) : Int) < (i : Int) - 1 := by omega
          clear hrow
          go_wp2_with fail
          go_end0
          exact ⟨rfl, _, HW.out, HG.out, HSO.out, HSM.out⟩
end Go.Proofs.Ytncbieaobadekaa
