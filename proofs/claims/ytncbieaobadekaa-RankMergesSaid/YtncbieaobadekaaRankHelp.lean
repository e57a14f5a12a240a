/- The law's helpers few and same; the document's Place and Order. -/
import Derived.Test.YtncbieaobadekaaRankAwake
import Derived.Test.YtncbieaobadekaaRankRefCmp
import Derived.Test.YtncbieaobadekaaRankView
namespace Go.Proofs.Ytncbieaobadekaa
open Go.ChangeShapes Go.WideShapes Go.ChangeAt Go.RowKit
/-- It tells whether P; the world is as it was. -/
def TellsS (P : Prop) (w : World) (e : Ending) (w' : World) : Prop := w = w' ∧ ∃ b : Bool, e = .returned (.bool b) ∧ (b = true ↔ P)
/-- It tells whether P; orders were drawn, nothing else. -/
def TellsQ (P : Prop) (w : World) (e : Ending) (w' : World) : Prop := (∃ q, w' = w.drewN q) ∧ ∃ b : Bool, e = .returned (.bool b) ∧ (b = true ↔ P)
set_option maxHeartbeats 1000000 in
theorem few_any (K : Nat → Key) (n cap : Nat) (ao : Option Addr) (most : Nat) (hm : most ≤ 1000000) (hn : n ≤ 9223372036854775807) (w : World) (h : RawKeys w ao n K) :
    Calls Try.prog 39 #[.slice ao n cap, .int .i64 most] w (TellsS (n ≤ most ∧ ∀ i, i < n → (K i).n ≤ 6) w) := by
  have H := Lib.hid h
  by_cases hl : most < n
  · have d1 : decide ((most : Int) < n) = true := decide_eq_true (by omega)
    have d2 : decide (most < n) = true := decide_eq_true hl
    have HL := Lib.hid hl
    clear h hm hn hl
    go_enter Try.func39, Try.ntmps39
    go_wp2
    go_ret
    exact ⟨rfl, false, rfl, fun h => (by cases h), fun h => absurd h.1 (Nat.not_le.2 HL.out)⟩
  · have d1 : decide ((most : Int) < n) = false := decide_eq_false (by omega)
    have d2 : decide (most < n) = false := decide_eq_false hl
    have n1 : (n : Int) ≤ 1000000 := by omega
    have HL := Lib.hid (Nat.not_lt.1 hl)
    clear h hm hn hl
    go_enter Try.func39, Try.ntmps39
    go_wp2
    go_loop [5] (fun iv => ∃ k : Nat, k ≤ n ∧ iv = .int .i64 (k : Nat) ∧ ∀ i, i < k → (K i).n ≤ 6) (fun iv => n - (intOf iv).toNat)
    case atStart => exact ⟨0, Nat.zero_le _, rfl, fun i hi => by omega⟩
    case round =>
      obtain ⟨k, hk, rfl, hlo⟩ := hrel
      have hk2 : (k : Int) ≤ n := by omega
      have HLO := Lib.hid hlo
      clear hlo
      by_cases hlt : k < n
      · obtain ⟨b, off, rfl, hb, hc⟩ := H.out.2 (by omega)
        have c1 := hc k hlt
        have hlt2 : (k : Int) < n := by omega
        have HLT := Lib.hid hlt
        unfold Key.val at c1
        clear hc
        by_cases h6 : 6 < (K k).n
        · have d3 : decide ((6 : Int) < ((K k).n : Int)) = true := decide_eq_true (by omega)
          have d4 : decide (6 < (K k).n) = true := decide_eq_true h6
          have H6 := Lib.hid h6
          generalize (K k).ao = a at *
          generalize (K k).cap = c at *
          obtain ⟨m, hm⟩ : ∃ m, m = (K k).n := ⟨_, rfl⟩
          rw [← hm] at c1 d3 d4
          have HM := Lib.hid hm
          clear h6 hlt hm
          go_wp2
          go_ret
          exact ⟨rfl, false, rfl, fun h => (by cases h), fun h => absurd (h.2 k HLT.out) (Nat.not_le.2 H6.out)⟩
        · have d3 : decide ((6 : Int) < ((K k).n : Int)) = false := decide_eq_false (by omega)
          have d4 : decide (6 < (K k).n) = false := decide_eq_false h6
          have H6 := Lib.hid (Nat.not_lt.1 h6)
          generalize (K k).ao = a at *
          generalize (K k).cap = c at *
          obtain ⟨m, hm⟩ : ∃ m, m = (K k).n := ⟨_, rfl⟩
          rw [← hm] at c1 d3 d4
          have HM := Lib.hid hm
          clear h6 hlt hm
          go_wp2
          go_round
          case rel => exact ⟨k + 1, HLT.out, by go_num, fun i hi => by
            by_cases hik : i = k
            · rw [hik]; exact H6.out
            · exact HLO.out i (by omega)⟩
          case measure => have := HLT.out; simp [intOf]; omega
      · obtain rfl : k = n := by omega
        go_wp2
        go_ret
        exact ⟨rfl, true, rfl, fun _ => ⟨HL.out, HLO.out⟩, fun _ => rfl⟩
set_option maxHeartbeats 1000000 in
theorem rsame_any (z y : Nat → Int) (n cap m cap' : Nat) (ao bo : Option Addr) (hn : n ≤ 1000000) (hm : m ≤ 1000000) (w : World) (h1 : IntsAt w ao n z) (h2 : IntsAt w bo m y) :
    Calls Try.prog 42 #[.slice ao n cap, .slice bo m cap'] w (TellsQ (n = m ∧ ∀ i, i < n → z i = y i) w) := by
  have n1 : (n : Int) ≤ 1000000 := by omega
  have m1 : (m : Int) ≤ 1000000 := by omega
  have H1 := Lib.hid h1
  have H2 := Lib.hid h2
  by_cases hnm : n = m
  case neg =>
    have b1 : ((n : Int) != (m : Int)) = true := by rw [bne_iff_ne]; omega
    have HF := Lib.hid hnm
    clear h1 h2 hn hm hnm
    go_enter Try.func42, Try.ntmps42
    go_wp2
    go_ret
    exact ⟨⟨0, rfl⟩, false, rfl, fun h => (by cases h), fun h => absurd h.1 HF.out⟩
  subst hnm
  have b1 : ((n : Int) != (n : Int)) = false := by simp
  clear h1 h2 hn hm
  go_enter Try.func42, Try.ntmps42
  go_wp2_with fail
  go_loopw [5] (fun iv wr => ∃ k : Nat, k ≤ n ∧ iv = .int .i64 (k : Nat) ∧ (∃ q, wr = w.drewN q) ∧ ∀ i, i < k → z i = y i) (fun iv _ => n - (intOf iv).toNat)
  case atStart => exact ⟨0, Nat.zero_le _, rfl, ⟨0, rfl⟩, fun i hi => by omega⟩
  case round =>
    obtain ⟨k, hk, rfl, hq, hlo⟩ := hrel
    have HQ := Lib.hid hq
    have hk2 : (k : Int) ≤ n := by omega
    have HLO := Lib.hid hlo
    clear hlo
    by_cases hlt : k < n
    · obtain ⟨b, off, rfl, hb, hc⟩ := H1.out (by omega)
      obtain ⟨b', off', rfl, hb', hc'⟩ := H2.out (by omega)
      have c1 : wr.cell? ⟨b, off + k, none⟩ = some (.int .i64 (z k)) := by
        obtain ⟨q, rfl⟩ := hq
        exact hc k hlt
      have c2 : wr.cell? ⟨b', off' + k, none⟩ = some (.int .i64 (y k)) := by
        obtain ⟨q, rfl⟩ := hq
        exact hc' k hlt
      have hlt2 : (k : Int) < n := by omega
      clear hc hc' hq
      by_cases he : z k = y k
      · have d : (z k != y k) = false := by simp [he]
        have HE := Lib.hid he
        clear he
        obtain ⟨x, hx⟩ : ∃ x, z k = x := ⟨_, rfl⟩
        obtain ⟨u, hu⟩ : ∃ u, y k = u := ⟨_, rfl⟩
        rw [hx] at c1 d
        rw [hu] at c2 d
        clear hx hu
        go_wp2_with fail
        go_quiet (fail)
        go_wp2_with fail
        go_roundw
        case rel => exact ⟨k + 1, hlt, by go_num, by
          obtain ⟨q, e⟩ := HQ.out
          exact ⟨q + nq, by rw [e, World.drewN_drewN]⟩, fun i hi => by
          by_cases hik : i = k
          · rw [hik]; exact HE.out
          · exact HLO.out i (by omega)⟩
        case measure => simp [intOf]; omega
      · have d : (z k != y k) = true := by simp [he]
        have HE := Lib.hid he
        clear he
        obtain ⟨x, hx⟩ : ∃ x, z k = x := ⟨_, rfl⟩
        obtain ⟨u, hu⟩ : ∃ u, y k = u := ⟨_, rfl⟩
        rw [hx] at c1 d
        rw [hu] at c2 d
        clear hx hu
        go_wp2_with fail
        go_quiet (fail)
        go_wp2_with fail
        go_ret
        exact ⟨by
          obtain ⟨q, e⟩ := HQ.out
          exact ⟨q + nq, by rw [e, World.drewN_drewN]⟩, false, rfl, fun h => (by cases h), fun h => absurd (h.2 k hlt) HE.out⟩
    · obtain rfl : k = n := by omega
      clear hq
      go_wp2_with fail
      go_ret
      exact ⟨HQ.out, true, rfl, fun _ => ⟨(by first | trivial | rfl), HLO.out⟩, fun _ => rfl⟩
end Go.Proofs.Ytncbieaobadekaa
