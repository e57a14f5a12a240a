/- The page's examples hold: awake. -/
import Derived.Test.YtncbieaobadekaaShareTop
namespace Go.Proofs.Ytncbieaobadekaa
open Go.ChangeShapes Go.WideShapes Go.ChangeAt Go.RowKit
def Sames (z y : Nat → Int) (n m : Nat) (w : World) (e : Ending) (w' : World) : Prop := ∃ b : Bool, e = .returned (.bool b) ∧ (b = true ↔ n = m ∧ ∀ i, i < n → z i = y i) ∧ ∃ q, w' = w.drewN q
theorem same_any (z y : Nat → Int) (n cap m cap' : Nat) (ao bo : Option Addr) (hn : n ≤ 1000000) (hm : m ≤ 1000000) (w : World) (h1 : IntsAt w ao n z) (h2 : IntsAt w bo m y) :
    Calls Try.prog 16 #[.slice ao n cap, .slice bo m cap'] w (Sames z y n m w) := by
  have n1 : (n : Int) ≤ 1000000 := by omega
  have m1 : (m : Int) ≤ 1000000 := by omega
  have H1 := Lib.hid h1
  have H2 := Lib.hid h2
  by_cases hnm : n = m
  case neg =>
    have b1 : ((n : Int) != (m : Int)) = true := by rw [bne_iff_ne]; omega
    have HF := Lib.hid hnm
    clear h1 h2 hn hm hnm
    go_enter Try.func16, Try.ntmps16
    go_wp2
    go_ret
    exact ⟨false, rfl, ⟨fun h => (by cases h), fun h => absurd h.1 HF.out⟩, 0, rfl⟩
  subst hnm
  have b1 : ((n : Int) != (n : Int)) = false := by simp
  clear h1 h2 hn hm
  go_enter Try.func16, Try.ntmps16
  go_wp2_with fail
  go_loopw [5] (fun iv wr => ∃ k : Nat, k ≤ n ∧ iv = .int .i64 (k : Nat) ∧ (∃ q, wr = w.drewN q) ∧ ∀ i, i < k → z i = y i) (fun iv _ => n - (intOf iv).toNat)
  case atStart => exact ⟨0, Nat.zero_le _, rfl, ⟨0, rfl⟩, fun i hi => by omega⟩
  case round =>
    obtain ⟨k, hk, rfl, hq, hlo⟩ := hrel
    have HQ := Lib.hid hq
    have hk2 : (k : Int) ≤ n := by omega
    have HLO := Lib.hid hlo
    clear hlo
    by_cases hlt : k < n
    · obtain ⟨b, off, rfl, hb, hc⟩ := H1.out (by omega)
      obtain ⟨b', off', rfl, hb', hc'⟩ := H2.out (by omega)
      have c1 : wr.cell? ⟨b, off + k, none⟩ = some (.int .i64 (z k)) := by
        obtain ⟨q, rfl⟩ := hq
        exact hc k hlt
      have c2 : wr.cell? ⟨b', off' + k, none⟩ = some (.int .i64 (y k)) := by
        obtain ⟨q, rfl⟩ := hq
        exact hc' k hlt
      have hlt2 : (k : Int) < n := by omega
      clear hc hc' hq
      by_cases he : z k = y k
      · have d : (z k != y k) = false := by simp [he]
        have HE := Lib.hid he
        clear he
        obtain ⟨x, hx⟩ : ∃ x, z k = x := ⟨_, rfl⟩
        obtain ⟨u, hu⟩ : ∃ u, y k = u := ⟨_, rfl⟩
        rw [hx] at c1 d
        rw [hu] at c2 d
        clear hx hu
        go_wp2_with fail
        go_quiet (fail)
        go_wp2_with fail
        go_roundw
        case rel => exact ⟨k + 1, hlt, by go_num, by
          obtain ⟨q, e⟩ := HQ.out
          exact ⟨q + nq, by rw [e, World.drewN_drewN]⟩, fun i hi => by
          by_cases hik : i = k
          · rw [hik]; exact HE.out
          · exact HLO.out i (by omega)⟩
        case measure => simp [intOf]; omega
      · have d : (z k != y k) = true := by simp [he]
        have HE := Lib.hid he
        clear he
        obtain ⟨x, hx⟩ : ∃ x, z k = x := ⟨_, rfl⟩
        obtain ⟨u, hu⟩ : ∃ u, y k = u := ⟨_, rfl⟩
        rw [hx] at c1 d
        rw [hu] at c2 d
        clear hx hu
        go_wp2_with fail
        go_quiet (fail)
        go_wp2_with fail
        go_ret
        exact ⟨false, rfl, ⟨fun h => (by cases h), fun h => absurd (h.2 k hlt) HE.out⟩, by
          obtain ⟨q, e⟩ := HQ.out
          exact ⟨q + nq, by rw [e, World.drewN_drewN]⟩⟩
    · obtain rfl : k = n := by omega
      clear hq
      go_wp2_with fail
      go_ret
      exact ⟨true, rfl, ⟨fun _ => ⟨rfl, HLO.out⟩, fun _ => rfl⟩, HQ.out⟩
end Go.Proofs.Ytncbieaobadekaa
