/- The document's Cmp of keys. -/
import Derived.Test.YtncbieaobadekaaRankCmp
namespace Go.Proofs.Ytncbieaobadekaa
open Go.ChangeShapes Go.WideShapes Go.ChangeAt Go.RowKit
/-- It returns v; orders were drawn, nothing else. -/
def RetQ (v : Value) (w : World) (e : Ending) (w' : World) : Prop := e = .returned v ∧ ∃ q, w' = w.drewN q
set_option maxHeartbeats 2000000 in
theorem refcmp_any (z y : Nat → Int) (n cap m cap' : Nat) (ao bo : Option Addr) (hn : n ≤ 1000000) (hm : m ≤ 1000000) (w : World) (h1 : IntsAt w ao n z) (h2 : IntsAt w bo m y) :
    Calls Try.prog 38 #[.slice ao n cap, .slice bo m cap'] w (RetQ (.int .i64 (cmpZ z n y m)) w) := by
  have n1 : (n : Int) ≤ 1000000 := by omega
  have m1 : (m : Int) ≤ 1000000 := by omega
  have H1 := Lib.hid h1
  have H2 := Lib.hid h2
  obtain ⟨r, hr⟩ : ∃ r, r = cmpZ z n y m := ⟨_, rfl⟩
  have HR : Hid (cmpF z y m (n - 0) 0 = r) := hr.symm
  rw [← hr]
  clear h1 h2 hn hm hr
  go_enter Try.func38, Try.ntmps38
  go_wp2_with fail
  go_loopw [5] (fun iv wr => ∃ k : Nat, k ≤ n ∧ iv = .int .i64 (k : Nat) ∧ (∃ q, wr = w.drewN q) ∧ cmpF z y m (n - k) k = r) (fun iv _ => n - (intOf iv).toNat)
  case atStart => exact ⟨0, Nat.zero_le _, rfl, ⟨0, rfl⟩, HR.out⟩
  case round =>
    obtain ⟨k, hk, rfl, hq, hr⟩ := hrel
    have HQ := Lib.hid hq
    have hk2 : (k : Int) ≤ n := by omega
    by_cases hlt : k < n
    · obtain ⟨b, off, rfl, hb, hc⟩ := H1.out (by omega)
      have c1 : wr.cell? ⟨b, off + k, none⟩ = some (.int .i64 (z k)) := by
        obtain ⟨q, rfl⟩ := hq
        exact hc k hlt
      have hlt2 : (k : Int) < n := by omega
      have HL := Lib.hid hlt
      clear hc
      by_cases hkm : m ≤ k
      · have d2 : decide ((m : Int) ≤ (k : Int)) = true := decide_eq_true (by omega)
        have d1 : decide (m ≤ k) = true := decide_eq_true hkm
        rw [cmpF_over z y m n k hlt hkm] at hr
        have HE := Lib.hid hr
        clear hr hkm hlt hq
        go_wp2_with fail
        go_quiet (fail)
        go_wp2
        go_ret
        exact ⟨by rw [← HE.out]; rfl, by
          obtain ⟨q, e⟩ := HQ.out
          exact ⟨q + nq, by rw [e, World.drewN_drewN]⟩⟩
      · have d2 : decide ((m : Int) ≤ (k : Int)) = false := decide_eq_false (by omega)
        have d1 : decide (m ≤ k) = false := decide_eq_false hkm
        have hkm2 : (k : Int) < m := by omega
        obtain ⟨b', off', rfl, hb', hc'⟩ := H2.out (by omega)
        have c2 : wr.cell? ⟨b', off' + k, none⟩ = some (.int .i64 (y k)) := by
          obtain ⟨q, rfl⟩ := hq
          exact hc' k (by omega)
        clear hc'
        have HK := Lib.hid (Nat.not_le.1 hkm)
        have HE := Lib.hid hr
        clear hr hkm hlt hq
        rcases (show z k < y k ∨ y k < z k ∨ z k = y k by omega) with hz | hz | hz
        · have HZ := Lib.hid (cmpF_less z y m n k HL.out HK.out hz)
          have d3 : decide (y k < z k) = false := decide_eq_false (by omega)
          have d4 : decide (z k < y k) = true := decide_eq_true hz
          obtain ⟨u, hu⟩ : ∃ u, z k = u := ⟨_, rfl⟩
          obtain ⟨v, hv⟩ : ∃ v, y k = v := ⟨_, rfl⟩
          rw [hu] at c1 d3 d4
          rw [hv] at c2 d3 d4
          clear hz hu hv
          go_wp2_with fail
          go_quiet (fail)
          have HQ1 : Hid (∃ q, wr.drewN nq = w.drewN q) := by
            obtain ⟨q, e⟩ := HQ.out
            exact ⟨q + nq, by rw [e, World.drewN_drewN]⟩
          have c1' : (wr.drewN nq).cell? ⟨b, off + k, none⟩ = some (.int .i64 u) := c1
          have c2' : (wr.drewN nq).cell? ⟨b', off' + k, none⟩ = some (.int .i64 v) := c2
          generalize wr.drewN nq = wq at *
          clear c1 c2
          go_wp2_with fail
          go_quiet (fail)
          go_wp2
          go_ret
          exact ⟨by rw [← HE.out, HZ.out]; rfl, by
            obtain ⟨q, e⟩ := HQ1.out
            exact ⟨q + nq, by rw [e, World.drewN_drewN]⟩⟩
        · have HZ := Lib.hid (cmpF_more z y m n k HL.out HK.out hz)
          have d3 : decide (y k < z k) = true := decide_eq_true hz
          obtain ⟨u, hu⟩ : ∃ u, z k = u := ⟨_, rfl⟩
          obtain ⟨v, hv⟩ : ∃ v, y k = v := ⟨_, rfl⟩
          rw [hu] at c1 d3
          rw [hv] at c2 d3
          clear hz hu hv
          go_wp2_with fail
          go_quiet (fail)
          go_wp2
          go_ret
          exact ⟨by rw [← HE.out, HZ.out]; rfl, by
            obtain ⟨q, e⟩ := HQ.out
            exact ⟨q + nq, by rw [e, World.drewN_drewN]⟩⟩
        · have HZ := Lib.hid (cmpF_like z y m n k HL.out HK.out hz)
          have d3 : decide (y k < z k) = false := decide_eq_false (by omega)
          have d4 : decide (z k < y k) = false := decide_eq_false (by omega)
          obtain ⟨u, hu⟩ : ∃ u, z k = u := ⟨_, rfl⟩
          obtain ⟨v, hv⟩ : ∃ v, y k = v := ⟨_, rfl⟩
          rw [hu] at c1 d3 d4
          rw [hv] at c2 d3 d4
          clear hz hu hv
          go_wp2_with fail
          go_quiet (fail)
          have HQ1 : Hid (∃ q, wr.drewN nq = w.drewN q) := by
            obtain ⟨q, e⟩ := HQ.out
            exact ⟨q + nq, by rw [e, World.drewN_drewN]⟩
          have c1' : (wr.drewN nq).cell? ⟨b, off + k, none⟩ = some (.int .i64 u) := c1
          have c2' : (wr.drewN nq).cell? ⟨b', off' + k, none⟩ = some (.int .i64 v) := c2
          generalize wr.drewN nq = wq at *
          clear c1 c2
          go_wp2_with fail
          go_quiet (fail)
          go_wp2
          go_roundw
          case rel => exact ⟨k + 1, HL.out, by go_num, by
            obtain ⟨q, e⟩ := HQ1.out
            exact ⟨q + nq, by rw [e, World.drewN_drewN]⟩, by rw [← HZ.out]; exact HE.out⟩
          case measure => have := HL.out; simp [intOf]; omega
    · obtain rfl : k = n := by omega
      rw [cmpF_end] at hr
      have HE := Lib.hid hr
      clear hr hlt hq
      by_cases hkm : k < m
      · have d2 : decide ((k : Int) < (m : Int)) = true := decide_eq_true (by omega)
        have d1 : decide (k < m) = true := decide_eq_true hkm
        have HK := Lib.hid hkm
        clear hkm
        go_wp2
        go_ret
        exact ⟨by rw [← HE.out, if_pos HK.out]; rfl, HQ.out⟩
      · have d2 : decide ((k : Int) < (m : Int)) = false := decide_eq_false (by omega)
        have d1 : decide (k < m) = false := decide_eq_false hkm
        have HK := Lib.hid hkm
        clear hkm
        go_wp2
        go_ret
        exact ⟨by rw [← HE.out, if_neg HK.out]; rfl, HQ.out⟩
end Go.Proofs.Ytncbieaobadekaa
