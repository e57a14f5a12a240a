/- How keys compare: slices.Compare, package rank's Cmp, the document's Cmp. -/
import Derived.Test.YtncbieaobadekaaSCmp
import Derived.Test.YtncbieaobadekaaRankMath
namespace Go.Proofs.Ytncbieaobadekaa
open Go.ChangeShapes Go.WideShapes Go.ChangeAt Go.RowKit
theorem cmp3_zero (x : Int) : cmp3 x x = 0 := by unfold cmp3; rw [if_neg (by omega), if_neg (by omega)]
set_option maxHeartbeats 1000000 in
theorem scompare_any (z y : Nat → Int) (n cap m cap' : Nat) (ao bo : Option Addr) (hn : n ≤ 1000000) (hm : m ≤ 1000000) (w : World) (h1 : IntsAt w ao n z) (h2 : IntsAt w bo m y) :
    Calls Try.prog 68 #[.slice ao n cap, .slice bo m cap'] w (RetS (.int .i64 (cmpZ z n y m)) w) := by
  have n1 : (n : Int) ≤ 1000000 := by omega
  have m1 : (m : Int) ≤ 1000000 := by omega
  have H1 := Lib.hid h1
  have H2 := Lib.hid h2
  have HC := Lib.hid (fun x y => compare_any x y w)
  obtain ⟨r, hr⟩ : ∃ r, r = cmpZ z n y m := ⟨_, rfl⟩
  have HR : Hid (cmpF z y m (n - 0) 0 = r) := hr.symm
  rw [← hr]
  clear h1 h2 hn hm hr
  go_enter Try.func68, Try.ntmps68
  go_wp2_with fail
  go_loop [11] (fun iv => ∃ k : Nat, k ≤ n ∧ iv = .int .i64 (k : Nat) ∧ cmpF z y m (n - k) k = r) (fun iv => n - (intOf iv).toNat)
  case atStart => exact ⟨0, Nat.zero_le _, rfl, HR.out⟩
  case round =>
    obtain ⟨k, hk, rfl, hr⟩ := hrel
    have hk2 : (k : Int) ≤ n := by omega
    by_cases hlt : k < n
    · obtain ⟨b, off, rfl, hb, hc⟩ := H1.out (by omega)
      have c1 := hc k hlt
      have hlt2 : (k : Int) < n := by omega
      have HL := Lib.hid hlt
      clear hc
      by_cases hkm : m ≤ k
      · have d2 : decide ((m : Int) ≤ (k : Int)) = true := decide_eq_true (by omega)
        have d1 : decide (m ≤ k) = true := decide_eq_true hkm
        rw [cmpF_over z y m n k hlt hkm] at hr
        have HE := Lib.hid hr
        clear hr hkm hlt
        go_wp2
        go_ret
        exact ⟨by rw [← HE.out]; rfl, rfl⟩
      · have d2 : decide ((m : Int) ≤ (k : Int)) = false := decide_eq_false (by omega)
        have d1 : decide (m ≤ k) = false := decide_eq_false hkm
        have hkm2 : (k : Int) < m := by omega
        obtain ⟨b', off', rfl, hb', hc'⟩ := H2.out (by omega)
        have c2 := hc' k (by omega)
        clear hc'
        have HK := Lib.hid (Nat.not_le.1 hkm)
        have HE := Lib.hid hr
        clear hr hkm hlt
        rcases (show z k < y k ∨ y k < z k ∨ z k = y k by omega) with hz | hz | hz
        · have HZ := Lib.hid (cmpF_less z y m n k HL.out HK.out hz)
          have e3 : cmp3 (z k) (y k) = -1 := if_pos hz
          have HCK := Lib.hid (HC.out (z k) (y k))
          rw [e3] at HCK
          obtain ⟨u, hu⟩ : ∃ u, z k = u := ⟨_, rfl⟩
          obtain ⟨v, hv⟩ : ∃ v, y k = v := ⟨_, rfl⟩
          rw [hu] at c1 HCK
          rw [hv] at c2 HCK
          clear hz e3 hu hv
          go_wp2_with fail
          refine HCK.out.mono ?_
          rintro e w1 ⟨rfl, rfl⟩
          go_wp2
          go_ret
          exact ⟨by rw [← HE.out, HZ.out]; rfl, rfl⟩
        · have HZ := Lib.hid (cmpF_more z y m n k HL.out HK.out hz)
          have e3 : cmp3 (z k) (y k) = 1 := by rw [cmp3, if_neg (by omega), if_pos hz]
          have HCK := Lib.hid (HC.out (z k) (y k))
          rw [e3] at HCK
          obtain ⟨u, hu⟩ : ∃ u, z k = u := ⟨_, rfl⟩
          obtain ⟨v, hv⟩ : ∃ v, y k = v := ⟨_, rfl⟩
          rw [hu] at c1 HCK
          rw [hv] at c2 HCK
          clear hz e3 hu hv
          go_wp2_with fail
          refine HCK.out.mono ?_
          rintro e w1 ⟨rfl, rfl⟩
          go_wp2
          go_ret
          exact ⟨by rw [← HE.out, HZ.out]; rfl, rfl⟩
        · have HZ := Lib.hid (cmpF_like z y m n k HL.out HK.out hz)
          have HCK := Lib.hid (HC.out (z k) (y k))
          rw [hz] at c1 HCK
          rw [cmp3_zero] at HCK
          obtain ⟨v, hv⟩ : ∃ v, y k = v := ⟨_, rfl⟩
          rw [hv] at c1 c2 HCK
          clear hz hv
          go_wp2_with fail
          refine HCK.out.mono ?_
          rintro e w1 ⟨rfl, rfl⟩
          go_wp2
          go_round
          case rel => exact ⟨k + 1, HL.out, by go_num, by rw [← HZ.out]; exact HE.out⟩
          case measure => have := HL.out; simp [intOf]; omega
    · obtain rfl : k = n := by omega
      rw [cmpF_end] at hr
      have HE := Lib.hid hr
      clear hr hlt
      by_cases hkm : k < m
      · have d2 : decide ((k : Int) < (m : Int)) = true := decide_eq_true (by omega)
        have d1 : decide (k < m) = true := decide_eq_true hkm
        have HK := Lib.hid hkm
        clear hkm
        go_wp2
        go_ret
        exact ⟨by rw [← HE.out, if_pos HK.out]; rfl, rfl⟩
      · have d2 : decide ((k : Int) < (m : Int)) = false := decide_eq_false (by omega)
        have d1 : decide (k < m) = false := decide_eq_false hkm
        have HK := Lib.hid hkm
        clear hkm
        go_wp2
        go_ret
        exact ⟨by rw [← HE.out, if_neg HK.out]; rfl, rfl⟩
theorem rcmp_any (z y : Nat → Int) (n cap m cap' : Nat) (ao bo : Option Addr) (hn : n ≤ 1000000) (hm : m ≤ 1000000) (w : World) (h1 : IntsAt w ao n z) (h2 : IntsAt w bo m y) :
    Calls Try.prog 37 #[.slice ao n cap, .slice bo m cap'] w (RetS (.int .i64 (cmpZ z n y m)) w) := by
  have H := Lib.hid (scompare_any z y n cap m cap' ao bo hn hm w h1 h2)
  clear h1 h2 hn hm
  obtain ⟨r, hr⟩ : ∃ r, r = cmpZ z n y m := ⟨_, rfl⟩
  rw [← hr] at H ⊢
  clear hr
  go_enter Try.func37, Try.ntmps37
  go_wp2_with fail
  refine H.out.mono ?_
  rintro e w1 ⟨rfl, rfl⟩
  go_wp2
  go_ret
  exact ⟨rfl, rfl⟩
end Go.Proofs.Ytncbieaobadekaa
