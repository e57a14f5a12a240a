/- symMerge of Go's package slices, where the second stretch is one number. -/
import Derived.Test.YtncbieaobadekaaSort5
namespace Go.Proofs.Ytncbieaobadekaa
open Go.ChangeShapes Go.WideShapes Go.ChangeAt Go.RowKit
set_option maxRecDepth 100000 in
set_option maxHeartbeats 4000000 in
theorem sym_right {V : Int → Prop} {cf : Int → Int → Int} {Inv : World → Prop} {k : Int → Int → Prop} (gf : Nat) (caps : Array Value) (f : Nat → Int) (g n cap a m : Nat) (HC : CmpOk gf caps g V cf Inv) (hk : SWO k) (hcf : ∀ x y, V x → V y → (cf x y < 0 ↔ k x y))
    (hab : a + 1 < m) (hbn : m < n) (hn : n ≤ 1000000) (hV : ∀ i, a ≤ i → i < m + 1 → V (f i)) (hcr : ∀ t, a ≤ t → t < m → f t < f m) (hs : SortedOn (ltK k) f a m) (w : World) (hI : Inv w) (h : RowF w g n f) :
    Calls Try.prog 119 #[.slice (some ⟨g, 0, none⟩) n cap, .int .i64 a, .int .i64 m, .int .i64 ((m : Int) + 1), .func (.func gf) #[] caps] w (Sorts (ltK k) g n f a (m + 1) w) := by
  have a1 : (a : Int) + 1 < m := by omega
  have a4 : (m : Int) < n := by omega
  have a5 : (n : Int) ≤ 1000000 := by omega
  have d28 : ((m : Int) - (a : Int) == 1) = false := by rw [beq_eq_false_iff_ne]; omega
  have d80 : (((m : Int) + 1 - (m : Int)) == 1) = true := by rw [beq_iff_eq]; omega
  have HINV := Lib.hid hI
  have eg := HC.enter
  have HCC := Lib.hid HC
  have HK := Lib.hid (And.intro hk hcf)
  have HVV := Lib.hid hV
  have HCR := Lib.hid hcr
  have HS := Lib.hid hs
  have HR := Lib.hid h
  clear h hI HC hk hcf hV hcr hs
  go_enter Try.func119, Try.ntmps119
  go_wp2_with fail
  go_loopw [14, 15] (fun iv jv wr => ∃ (i j : Nat), iv = .int .i64 (i : Nat) ∧ jv = .int .i64 (j : Nat) ∧ a ≤ i ∧ i ≤ j ∧ j ≤ m ∧ RowF wr g n f ∧ Gr g w wr ∧ (∀ t, a ≤ t → t < i → ltK k (f t) (f m)) ∧ (∀ t, j ≤ t → t < m → ltK k (f m) (f t))) (fun iv jv _ => (intOf jv).toNat - (intOf iv).toNat)
  case atStart => exact ⟨a, m, rfl, rfl, by omega, by omega, Nat.le_refl _, HR.out, gr_refl _ _, fun t _ _ => by omega, fun t _ _ => by omega⟩
  case round =>
    obtain ⟨i, j, rfl, rfl, hai, hij, hjb, hrow, hgr, hlo, hhi⟩ := hrel
    have HW := Lib.hid hrow
    have HG := Lib.hid hgr
    have HLO := Lib.hid hlo
    have HHI := Lib.hid hhi
    have ai2 : (a : Int) ≤ i := by omega
    have ij2 : (i : Int) ≤ j := by omega
    have jb2 : (j : Int) ≤ m := by omega
    clear hgr hlo hhi
    by_cases hlt : i < j
    · have hlt2 : (i : Int) < j := by omega
      go_upto_region 17 with (fail)
      obtain ⟨h, hh⟩ : ∃ h : Nat, h = (i + j) / 2 := ⟨_, rfl⟩
      rw [show ((i : Int) + (j : Int)) / 2 = ((h : Nat) : Int) from by omega]
      have h1 : i ≤ h := by omega
      have h2 : h < j := by omega
      have h3 : (h : Int) < n := by omega
      clear hh
      have c1 := hrow.cell m (by omega)
      have c2 := hrow.cell h (by omega)
      have hvx : V (f m) := HVV.out m (by omega) (by omega)
      have hvy : V (f h) := HVV.out h (by omega) (by omega)
      have hcmp := fun q => HCC.out.calls (wr.drewN q) (HCC.out.draws _ _ (HCC.out.inv _ _ HINV.out HG.out)) (f m) (f h) hvx hvy
      have HCMP := Lib.hid hcmp
      have hxy := HCR.out h (by omega) (by omega)
      have hlk := (ltK_late (k := k) hxy).trans (HK.out.2 _ _ hvx hvy).symm
      obtain ⟨x, hx⟩ : ∃ x, f m = x := ⟨_, rfl⟩
      obtain ⟨y, hy⟩ : ∃ y, f h = y := ⟨_, rfl⟩
      rw [hx] at c1 hlk HCMP
      rw [hy] at c2 hlk HCMP
      have HX := Lib.hid hx
      have HY := Lib.hid hy
      have HXY := Lib.hid hxy
      clear hcmp hrow hx hy hxy hvx hvy
      obtain ⟨c, hc⟩ : ∃ c, cf x y = c := ⟨_, rfl⟩
      rw [hc] at HCMP hlk
      clear hc
      by_cases hneg : c < 0
      · have HLT : Hid (ltK k (f m) (f h)) := by
          show ltK k (f m) (f h)
          rw [HX.out, HY.out]
          exact hlk.2 hneg
        have dc : decide (c < 0) = true := decide_eq_true hneg
        clear hlk
        go_wp2_with fail
        go_quiet ((go_at_fn gf; exact Calls.quiet_of (HCMP.out _)))
        go_wp2_with fail
        go_roundw
        case rel => exact ⟨i, h, rfl, rfl, by omega, by omega, by omega, HW.out, ⟨HG.out.os, HG.out.tape, HG.out.output, HG.out.size, HG.out.block⟩, HLO.out, fun t t1 t2 => by
            by_cases ht : t = h
            · rw [ht]; exact HLT.out
            · exact ltK_trans HK.out.1 HLT.out (HS.out h t (by omega) (by omega) (by omega))⟩
        case measure => simp [intOf]; omega
      · have HGE : Hid (ltK k (f h) (f m)) := ltK_total HK.out.1 (by rw [HX.out, HY.out]; exact fun hq => hneg (hlk.1 hq)) (by have := HXY.out; omega)
        have dc : decide (c < 0) = false := decide_eq_false hneg
        clear hlk
        go_wp2_with fail
        go_quiet ((go_at_fn gf; exact Calls.quiet_of (HCMP.out _)))
        go_wp2_with fail
        go_roundw
        case rel => exact ⟨h + 1, j, by go_num, rfl, by omega, by omega, by omega, HW.out, ⟨HG.out.os, HG.out.tape, HG.out.output, HG.out.size, HG.out.block⟩, fun t t1 t2 => by
            by_cases ht : t = h
            · rw [ht]; exact HGE.out
            · exact ltK_trans HK.out.1 (HS.out t h (by omega) (by omega) (by omega)) HGE.out, HHI.out⟩
        case measure => simp [intOf]; omega
    · obtain rfl : i = j := by omega
      have HSO := Lib.hid (insF_sorted (lt := ltK k) (fun h1 h2 => ltK_trans HK.out.1 h1 h2) f a m i hai hjb HS.out (fun hh => HLO.out (i - 1) (by omega) (by omega)) HHI.out)
      have HSM := Lib.hid (insF_same f a m i hai hjb)
      clear hrow HLO HHI hlt hij ij2
      go_wp2_with fail
      go_loopw [17] (fun kv wr => ∃ q : Nat, kv = .int .i64 (q : Nat) ∧ i ≤ q ∧ q ≤ m ∧ RowF wr g n (insF f m q) ∧ Gr g w wr) (fun kv _ => (intOf kv).toNat)
      case atStart => exact ⟨m, rfl, hjb, Nat.le_refl _, by rw [insF_self]; exact HW.out, HG.out⟩
      case round =>
        clear HW HG
        obtain ⟨q, rfl, hiq, hqm, hrow, hgr⟩ := hrel
        have HW := Lib.hid hrow
        have HG := Lib.hid hgr
        have q1 : (i : Int) ≤ q := by omega
        have q2 : (q : Int) ≤ m := by omega
        clear hgr
        by_cases hlt : i < q
        · obtain ⟨p, rfl⟩ : ∃ p, q = p + 1 := ⟨q - 1, by omega⟩
          have hlt2 : (i : Int) < (p : Int) + 1 := by omega
          have hlt3 : (p : Int) + 1 ≤ m := by omega
          have c1 := hrow.cell (p + 1) (by omega)
          have c2 := hrow.cell p (by omega)
          have e1 := hrow.free (p + 1)
          have e2 := hrow.free p
          rw [show insF f m (p + 1) (p + 1) = f m from by unfold insF; rw [if_pos rfl]] at c1
          rw [show insF f m (p + 1) p = f p from by unfold insF; rw [if_neg (by omega), if_neg (by omega)]] at c2
          have HN := Lib.hid (insF_next f m p (by omega))
          have HPC := Lib.hid (put_comm (insF f m (p + 1)) (p + 1) p (f p) (f m) (by omega))
          generalize f p = y at *
          generalize f m = x at *
          clear hrow
          go_wp2_with fail
          go_region
          all_goals
            go_wp2
            go_roundw
            case rel =>
              refine ⟨p, by go_num, by omega, by omega, ?_, ?_⟩
              · rw [← HN.out]
                first
                  | exact (HW.out.store (p + 1) y).store p x
                  | (rw [HPC.out]; exact (HW.out.store p x).store (p + 1) y)
              · exact gr_drew (gr_set (gr_set HG.out _ _) _ _)
            case measure => simp [intOf]
        · obtain rfl : q = i := by omega
          clear hrow
          go_wp2_with fail
          go_end0
          exact ⟨rfl, _, HW.out, HG.out, HSO.out, HSM.out⟩
end Go.Proofs.Ytncbieaobadekaa
