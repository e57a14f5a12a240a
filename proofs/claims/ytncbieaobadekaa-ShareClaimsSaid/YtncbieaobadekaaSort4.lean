/- The insertion sort of Go's package slices. -/
import Derived.Test.YtncbieaobadekaaSort3
namespace Go.Proofs.Ytncbieaobadekaa
open Go.ChangeShapes Go.WideShapes Go.ChangeAt Go.RowKit
/-- What a sort of a stretch leaves. -/
def Sorts (lt : Int → Int → Prop) (g n : Nat) (f : Nat → Int) (a b : Nat) (w : World) (e : Ending) (w' : World) : Prop :=
  e = .returned (.tuple #[]) ∧ ∃ f', RowF w' g n f' ∧ Gr g w w' ∧ SortedOn lt f' a b ∧ Same a b f f'
set_option maxHeartbeats 2000000 in
theorem insort_any {V : Int → Prop} {cf : Int → Int → Int} {Inv : World → Prop} {k : Int → Int → Prop} (gf : Nat) (caps : Array Value) (f : Nat → Int) (g n cap a b : Nat) (HC : CmpOk gf caps g V cf Inv) (hk : SWO k) (hcf : ∀ x y, V x → V y → (cf x y < 0 ↔ k x y))
    (hab : a ≤ b) (hbn : b ≤ n) (hn : n ≤ 1000000) (hV : ∀ i, a ≤ i → i < b → V (f i)) (hinc : ∀ i j, a ≤ i → i < j → j < b → f i < f j) (w : World) (hI : Inv w) (h : RowF w g n f) :
    Calls Try.prog 98 #[.slice (some ⟨g, 0, none⟩) n cap, .int .i64 a, .int .i64 b, .func (.func gf) #[] caps] w (Sorts (ltK k) g n f a b w) := by
  have a1 : (a : Int) ≤ b := by omega
  have a3 : (b : Int) ≤ 1000000 := by omega
  have a4 : (b : Int) ≤ n := by omega
  have a5 : (n : Int) ≤ 1000000 := by omega
  have HR := Lib.hid h
  have HINV := Lib.hid hI
  have eg := HC.enter
  have HCC := Lib.hid HC
  have HK := Lib.hid (And.intro hk hcf)
  have HVV := Lib.hid hV
  have HINC := Lib.hid hinc
  clear h hI HC hk hcf hV hinc
  rcases Nat.eq_or_lt_of_le hab with rfl | hlt0
  · go_enter Try.func98, Try.ntmps98
    go_wp2_with fail
    go_rounds 1
    go_end0
    exact ⟨rfl, f, HR.out, gr_refl _ _, fun i j _ _ _ => by omega, Same.refl _ _ _⟩
  go_enter Try.func98, Try.ntmps98
  go_wp2_with fail
  go_loopw [8] (fun iv wr => ∃ (i : Nat) (fi : Nat → Int), iv = .int .i64 (i : Nat) ∧ a < i ∧ i ≤ b ∧ RowF wr g n fi ∧ Gr g w wr ∧ SortedOn (ltK k) fi a i ∧ Same a i f fi) (fun iv _ => b - (intOf iv).toNat)
  case atStart => exact ⟨a + 1, f, by go_num, by omega, by omega, HR.out, gr_refl _ _, fun i j _ _ _ => by omega, Same.refl _ _ _⟩
  case round =>
    obtain ⟨i, fi, rfl, hai, hib, hrow, hgr, hsort, hsame⟩ := hrel
    have HW := Lib.hid hrow
    have HG := Lib.hid hgr
    have HS := Lib.hid hsort
    have HSA := Lib.hid hsame
    clear hrow hgr hsort hsame
    by_cases hlt : i < b
    · have hlt2 : (i : Int) < b := by omega
      have hai2 : (a : Int) < i := by omega
      go_wp2_with fail
      obtain ⟨wo, rfl⟩ : ∃ wo : World, wo = wr := ⟨_, rfl⟩
      go_loopw [9] (fun jv wr => ∃ (j : Nat), jv = .int .i64 (j : Nat) ∧ a ≤ j ∧ j ≤ i ∧ RowF wr g n (insF fi i j) ∧ Gr g w wr ∧ (∀ t, j ≤ t → t < i → ltK k (fi i) (fi t))) (fun jv _ => (intOf jv).toNat)
      case atStart => exact ⟨i, rfl, by omega, Nat.le_refl _, by rw [insF_self]; exact HW.out, HG.out, fun t _ _ => by omega⟩
      case round =>
        obtain ⟨j, rfl, haj, hji, hrow, hgr, hhi⟩ := hrel
        have HW2 := Lib.hid hrow
        have HG2 := Lib.hid hgr
        have HHI := Lib.hid hhi
        have hji2 : (j : Int) ≤ i := by omega
        clear hgr hhi
        by_cases hja : a < j
        · have hja2 : (a : Int) < j := by omega
          obtain ⟨p, rfl⟩ : ∃ p, j = p + 1 := ⟨j - 1, by omega⟩
          have c1 := hrow.cell (p + 1) (by omega)
          have c2 := hrow.cell p (by omega)
          have e1 := hrow.free (p + 1)
          have e2 := hrow.free p
          rw [show insF fi i (p + 1) (p + 1) = fi i from by unfold insF; rw [if_pos rfl]] at c1
          rw [show insF fi i (p + 1) p = fi p from by unfold insF; rw [if_neg (by omega), if_neg (by omega)]] at c2
          have hxy : fi p < fi i := by
            obtain ⟨s, s1, s2, e⟩ := HSA.out.from_ p (by omega) (by omega)
            rw [e, HSA.out.out i (by omega)]
            exact HINC.out s i s1 s2 hlt
          have hvx : V (fi i) := by rw [HSA.out.out i (by omega)]; exact HVV.out i (by omega) hlt
          have hvy : V (fi p) := by
            obtain ⟨s, s1, s2, e⟩ := HSA.out.from_ p (by omega) (by omega)
            rw [e]
            exact HVV.out s s1 (by omega)
          have hcmp := fun q => HCC.out.calls (wr.drewN q) (HCC.out.draws _ _ (HCC.out.inv _ _ HINV.out HG2.out)) (fi i) (fi p) hvx hvy
          have HCMP := Lib.hid hcmp
          have hlk := (ltK_late (k := k) hxy).trans (HK.out.2 _ _ hvx hvy).symm
          have HN := Lib.hid (insF_next fi i p (by omega))
          obtain ⟨x, hx⟩ : ∃ x, fi i = x := ⟨_, rfl⟩
          obtain ⟨y, hy⟩ : ∃ y, fi p = y := ⟨_, rfl⟩
          rw [hx] at c1 hlk HCMP HN
          rw [hy] at c2 hlk HCMP HN
          have HX := Lib.hid hx
          have HY := Lib.hid hy
          have HXY := Lib.hid hxy
          clear hcmp hrow hx hy hxy hvx hvy
          have d1 : decide ((a : Int) < (p : Int) + 1) = true := decide_eq_true (by omega)
          have d2 : decide ((p : Int) + 1 > (a : Int)) = true := decide_eq_true (by omega)
          have d3 : (a : Int) < (p : Int) + 1 := by omega
          obtain ⟨c, hc⟩ : ∃ c, cf x y = c := ⟨_, rfl⟩
          rw [hc] at HCMP hlk
          clear hc
          by_cases hneg : c < 0
          · have HLT := Lib.hid (hlk.2 hneg)
            clear hlk
            go_wp2_with fail
            go_quiet ((go_at_fn gf; exact Calls.quiet_of (HCMP.out _)))
            go_wp2_with fail
            have HW3 : Hid (RowF (wr.drewN nq) g n (insF fi i (p + 1))) := HW2.out
            have HG3 : Hid (Gr g w (wr.drewN nq)) := ⟨HG2.out.os, HG2.out.tape, HG2.out.output, HG2.out.size, HG2.out.block⟩
            clear c1 c2 e1 e2 HW2 HG2 HCMP
            generalize wr.drewN nq = w3 at *
            have c1 := HW3.out.cell (p + 1) (by omega)
            have c2 := HW3.out.cell p (by omega)
            have e1 := HW3.out.free (p + 1)
            have e2 := HW3.out.free p
            rw [show insF fi i (p + 1) (p + 1) = fi i from by unfold insF; rw [if_pos rfl], HX.out] at c1
            rw [show insF fi i (p + 1) p = fi p from by unfold insF; rw [if_neg (by omega), if_neg (by omega)], HY.out] at c2
            have HPC := Lib.hid (put_comm (insF fi i (p + 1)) (p + 1) p y x (by omega))
            go_region
            all_goals
              go_wp2
              go_roundw
              case rel =>
                refine ⟨p, by go_num, by omega, by omega, ?_, ?_, ?_⟩
                · rw [← HN.out]
                  first
                    | exact (HW3.out.store (p + 1) y).store p x
                    | (rw [HPC.out]; exact (HW3.out.store p x).store (p + 1) y)
                · first
                    | exact gr_drew (gr_set (gr_set HG3.out _ _) _ _)
                · intro t t1 t2
                  by_cases ht : t = p
                  · subst ht
                    rw [HX.out, HY.out]
                    exact HLT.out
                  · exact HHI.out t (by omega) t2
              case measure => simp [intOf]
          · have HGE : Hid (ltK k (fi p) (fi i)) := ltK_total HK.out.1 (by rw [HX.out, HY.out]; exact fun hh => hneg (hlk.1 hh)) (by have := HXY.out; omega)
            clear hlk
            go_wp2_with fail
            go_quiet ((go_at_fn gf; exact Calls.quiet_of (HCMP.out _)))
            go_wp2_with fail
            go_roundw
            case rel => exact ⟨i + 1, insF fi i (p + 1), by go_num, by omega, by omega, HW2.out, ⟨HG2.out.os, HG2.out.tape, HG2.out.output, HG2.out.size, HG2.out.block⟩, insF_sorted (lt := ltK k) (fun h1 h2 => ltK_trans HK.out.1 h1 h2) fi a i (p + 1) (by omega) (by omega) HS.out (fun _ => HGE.out) HHI.out, (HSA.out.wide (Nat.le_refl _) (by omega)).trans (insF_same fi a i (p + 1) (by omega) (by omega))⟩
            case measure => simp [intOf]; omega
        · obtain rfl : j = a := by omega
          clear hrow
          have d1 : decide ((j : Int) < (j : Int)) = false := by simp
          go_wp2_with fail
          go_quiet (fail)
          go_wp2_with fail
          go_roundw
          case rel => exact ⟨i + 1, insF fi i j, by go_num, by omega, by omega, HW2.out, ⟨HG2.out.os, HG2.out.tape, HG2.out.output, HG2.out.size, HG2.out.block⟩, insF_sorted (lt := ltK k) (fun h1 h2 => ltK_trans HK.out.1 h1 h2) fi j i j (by omega) (by omega) HS.out (fun hh => absurd hh (Nat.lt_irrefl _)) HHI.out, (HSA.out.wide (Nat.le_refl _) (by omega)).trans (insF_same fi j i j (by omega) (by omega))⟩
          case measure => simp [intOf]; omega
    · obtain rfl : i = b := by omega
      go_wp2_with fail
      go_end0
      exact ⟨rfl, fi, HW.out, HG.out, HS.out, HSA.out⟩
end Go.Proofs.Ytncbieaobadekaa
