/- Package share: anyBelow, Lost. -/
import Derived.Test.YtncbieaobadekaaSMoneySumV
namespace Go.Proofs.Ytncbieaobadekaa
open Go.ChangeShapes Go.WideShapes Go.ChangeAt Go.RowKit
theorem below1_any (x : Int) (w : World) : Calls Try.prog 79 #[.int .i64 x] w (RetS (.bool (decide (x < 0))) w) := by
  go_enter Try.func79, Try.ntmps79
  go_wp2
  go_ret
  exact ⟨rfl, rfl⟩
theorem index_any (z : Nat → Int) (n cap : Nat) (ao : Option Addr) (hn : n ≤ 1000000) (w : World) (h : IntsAt w ao n z) :
    Calls Try.prog 95 #[.slice ao n cap, .func (.func 79) #[] #[]] w (fun e w' => w = w' ∧ ∃ r : Int, e = .returned (.int .i64 r) ∧ ((r = -1 ∧ ∀ i, i < n → 0 ≤ z i) ∨ (0 ≤ r ∧ ∃ i, i < n ∧ z i < 0))) := by
  have hn2 : (n : Int) ≤ 1000000 := by omega
  have H := Lib.hid h
  clear h hn
  go_enter Try.func95, Try.ntmps95
  go_wp2_with fail
  go_loopw [8] (fun iv wr => ∃ k : Nat, k ≤ n ∧ iv = .int .i64 (k : Nat) ∧ w = wr ∧ (∀ i, i < k → 0 ≤ z i)) (fun iv _ => n - (intOf iv).toNat)
  case atStart => exact ⟨0, Nat.zero_le _, rfl, rfl, fun i hi => by omega⟩
  case round =>
    obtain ⟨k, hk, rfl, rfl, hlo⟩ := hrel
    have hk2 : (k : Int) ≤ n := by omega
    have HLO := Lib.hid hlo
    clear hlo
    by_cases hlt : k < n
    · obtain ⟨b, off, rfl, hb, hc⟩ := H.out (by omega)
      have hcell := hc k hlt
      have HX := Lib.hid (fun (w : World) => below1_any (z k) w)
      clear hc
      by_cases hneg : z k < 0
      · have HN := Lib.hid hneg
        have d := decide_eq_true hneg
        rw [d] at HX
        clear hneg d
        obtain ⟨x, hx⟩ : ∃ x, z k = x := ⟨_, rfl⟩
        rw [hx] at hcell HX
        clear hx
        go_wp2_with fail
        refine (HX.out _).mono ?_
        rintro e w1 ⟨rfl, rfl⟩
        go_wp2_with fail
        go_ret
        exact ⟨rfl, _, rfl, Or.inr ⟨by omega, k, hlt, HN.out⟩⟩
      · have d := decide_eq_false hneg
        rw [d] at HX
        clear d
        go_wp2_with fail
        refine (HX.out _).mono ?_
        rintro e w1 ⟨rfl, rfl⟩
        go_wp2_with fail
        go_roundw
        case rel => exact ⟨k + 1, by omega, by go_num, trivial, fun i hi => by
          by_cases hik : i = k
          · rw [hik]; omega
          · exact HLO.out i (by omega)⟩
        case measure => simp [intOf]; omega
    · obtain rfl : k = n := by omega
      go_wp2_with fail
      go_ret
      exact ⟨rfl, _, rfl, Or.inl ⟨rfl, HLO.out⟩⟩
def Tells (z : Nat → Int) (n : Nat) (w : World) (e : Ending) (w' : World) : Prop := w = w' ∧ ∃ b : Bool, e = .returned (.bool b) ∧ (b = true ↔ ∃ i, i < n ∧ z i < 0)
theorem contains_any (z : Nat → Int) (n cap : Nat) (ao : Option Addr) (hn : n ≤ 1000000) (w : World) (h : IntsAt w ao n z) :
    Calls Try.prog 78 #[.slice ao n cap, .func (.func 79) #[] #[]] w (Tells z n w) := by
  have HI := Lib.hid (index_any z n cap ao hn w h)
  clear h hn
  go_enter Try.func78, Try.ntmps78
  go_wp2_with fail
  refine HI.out.mono ?_
  rintro e w1 ⟨rfl, r, rfl, hr⟩
  rcases hr with ⟨rfl, hr⟩ | ⟨h0, hr⟩
  · have HR := Lib.hid hr
    clear hr
    go_wp2_with fail
    go_ret
    exact ⟨rfl, _, rfl, by
      constructor
      · intro h; simp at h
      · rintro ⟨i, hi, h⟩
        have := HR.out i hi
        omega⟩
  · have HR := Lib.hid hr
    have g0 : decide (0 ≤ r) = true := decide_eq_true h0
    clear hr
    go_wp2_with fail
    go_ret
    exact ⟨rfl, _, rfl, by
      constructor
      · intro h; exact HR.out
      · intro h; first | rfl | exact g0 | simp [h0]⟩
theorem anyBelow_any (z : Nat → Int) (n cap : Nat) (ao : Option Addr) (hn : n ≤ 1000000) (w : World) (h : IntsAt w ao n z) :
    Calls Try.prog 59 #[.slice ao n cap] w (Tells z n w) := by
  have HI := Lib.hid (contains_any z n cap ao hn w h)
  clear h hn
  go_enter Try.func59, Try.ntmps59
  go_wp2_with fail
  refine HI.out.mono ?_
  rintro e w1 ⟨rfl, b, rfl, hb⟩
  go_wp2_with fail
  go_ret
  exact ⟨rfl, b, rfl, hb⟩
end Go.Proofs.Ytncbieaobadekaa
