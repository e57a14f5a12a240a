/- The document's layer 3: Wrong. -/
import Derived.Test.YtncbieaobadekaaShareTop
namespace Go.Proofs.Ytncbieaobadekaa
open Go.ChangeShapes Go.WideShapes Go.ChangeAt Go.RowKit
theorem wrong_full (t : Int) (n cap : Nat) (ao : Option Addr) (hn : n ≤ 1000000) (h : 1024 < n) (w : World) :
    Calls Try.prog 50 #[.int .i64 t, .slice ao n cap] w (RetS (.tuple #[.int .i64 0, .int .i64 6]) w) := by
  have n1 : (n : Int) ≤ 1000000 := by omega
  have d1 : decide (1024 < (n : Int)) = true := by simp; omega
  have d2 : decide (1024 < n) = true := by simp; omega
  clear h hn
  go_enter Try.func50, Try.ntmps50
  go_wp2
  go_ret2
  exact ⟨rfl, rfl⟩
/-- Some amount is below 0: it is refused; none is: their sum. -/
theorem wrong_any (t : Int) (z : Nat → Int) (n cap : Nat) (ao : Option Addr) (hn : n ≤ 1024) (hz : ∀ i, i < n → -9223372036854775808 ≤ z i ∧ z i ≤ 9223372036854775807) (w : World) (h : IntsAt w ao n z) :
    Calls Try.prog 50 #[.int .i64 t, .slice ao n cap] w (fun e w' => w = w' ∧ (((t < 0 ∨ ∃ i, i < n ∧ z i < 0) ∧ e = .returned (.tuple #[.int .i64 0, .int .i64 1])) ∨ ((0 ≤ t ∧ ∀ i, i < n → 0 ≤ z i) ∧ e = .returned (amt (sumTo z n))))) := by
  have n1 : (n : Int) ≤ 1000000 := by omega
  have d1 : decide (1024 < (n : Int)) = false := by simp; omega
  have d2 : decide (1024 < n) = false := by simp; omega
  have HS := Lib.hid (refsumV z n cap ao (by omega) hz w h)
  have H := Lib.hid h
  clear h hn hz
  by_cases ht : t < 0
  · have d3 := decide_eq_true ht
    have HT := Lib.hid ht
    clear ht
    go_enter Try.func50, Try.ntmps50
    go_wp2
    go_ret2
    exact ⟨rfl, Or.inl ⟨Or.inl HT.out, rfl⟩⟩
  have d3 := decide_eq_false ht
  have HT : Hid (0 ≤ t) := Int.not_lt.1 ht
  clear ht
  go_enter Try.func50, Try.ntmps50
  go_wp2_with fail
  go_loopw [6] (fun iv wr => ∃ k : Nat, k ≤ n ∧ iv = .int .i64 (k : Nat) ∧ w = wr ∧ (∀ i, i < k → 0 ≤ z i)) (fun iv _ => n - (intOf iv).toNat)
  case atStart => exact ⟨0, Nat.zero_le _, rfl, rfl, fun i hi => by omega⟩
  case round =>
    obtain ⟨k, hk, rfl, rfl, hlo⟩ := hrel
    have hk2 : (k : Int) ≤ n := by omega
    have HLO := Lib.hid hlo
    clear hlo
    by_cases hlt : k < n
    · obtain ⟨b, off, rfl, hb, hc⟩ := H.out (by omega)
      have hcell := hc k hlt
      have hlt2 : (k : Int) < n := by omega
      clear hc
      by_cases hneg : z k < 0
      · have HN : Hid (∃ i, i < n ∧ z i < 0) := ⟨k, hlt, hneg⟩
        have d := decide_eq_true hneg
        obtain ⟨x, hx⟩ : ∃ x, z k = x := ⟨_, rfl⟩
        rw [hx] at hcell d
        clear hneg hx
        go_wp2_with fail
        go_ret2
        exact ⟨rfl, Or.inl ⟨Or.inr HN.out, rfl⟩⟩
      · have HN := Lib.hid (Int.not_lt.1 hneg)
        have d := decide_eq_false hneg
        obtain ⟨x, hx⟩ : ∃ x, z k = x := ⟨_, rfl⟩
        rw [hx] at hcell d
        clear hneg hx
        go_wp2_with fail
        go_roundw
        case rel => exact ⟨k + 1, by omega, by go_num, by first | trivial | rfl, fun i hi => by
          by_cases hik : i = k
          · rw [hik]; exact HN.out
          · exact HLO.out i (by omega)⟩
        case measure => simp [intOf]; omega
    · obtain rfl : k = n := by omega
      obtain ⟨x, e, hv⟩ := amt_form (sumTo z k)
      rw [hv] at HS
      have HV := Lib.hid hv
      clear hv hlt
      go_wp2_with fail
      refine HS.out.mono ?_
      rintro e1 w1 ⟨rfl, rfl⟩
      go_wp2_with fail
      go_ret2
      exact ⟨rfl, Or.inr ⟨⟨HT.out, HLO.out⟩, by rw [HV.out]; rfl⟩⟩
end Go.Proofs.Ytncbieaobadekaa
