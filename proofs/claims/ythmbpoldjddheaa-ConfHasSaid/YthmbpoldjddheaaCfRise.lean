/- rise: whether ticks rise. -/
import Derived.Test.YthmbpoldjddheaaCfBase
namespace Go.Proofs.Ythmbpoldjddheaa
open Go.ChangeShapes Go.WideShapes Go.ChangeAt Go.RowKit
/-- The tick ahead. -/
def ahead (f : Nat → Int) (j : Nat) : Int := if j = 0 then 0 else f (j - 1)
/-- Does each tick rise? -/
def upB (f : Nat → Int) (j : Nat) : Bool := wi (ahead f j + 1) 1000 (f j)
theorem allB_key (n : Nat) (p : Nat → Bool) : (allB n p = true ∧ ∀ i, i < n → p i = true) ∨ (allB n p = false ∧ ∃ i, i < n ∧ p i = false) := by
  by_cases hall : ∀ i, i < n → p i = true
  · exact Or.inl ⟨decide_eq_true hall, hall⟩
  · refine Or.inr ⟨decide_eq_false hall, Classical.byContradiction fun hno => hall fun i hi => ?_⟩
    cases hm : p i with
    | true => rfl
    | false => exact absurd ⟨i, hi, hm⟩ hno
theorem allB_false {n : Nat} {p : Nat → Bool} {i : Nat} (hi : i < n) (h : p i = false) : allB n p = false := decide_eq_false fun hall => by rw [hall i hi] at h; cases h
theorem ahead_in {f : Nat → Int} {j : Nat} (h : ∀ i, i < j → upB f i = true) : 0 ≤ ahead f j ∧ ahead f j ≤ 1000 := by
  unfold ahead
  split
  · omega
  · rename_i hj
    have h1 := h (j - 1) (by omega)
    induction j with
    | zero => omega
    | succ k ih =>
      have e : k + 1 - 1 = k := by omega
      rw [e] at h1 ⊢
      unfold upB wi at h1
      simp only [Bool.and_eq_true, decide_eq_true_eq] at h1
      refine ⟨?_, h1.2⟩
      have h2 := h1.1
      unfold ahead at h2
      by_cases hk : k = 0
      · rw [if_pos hk] at h2; omega
      · rw [if_neg hk] at h2
        have := ih (fun i hi => h i (by omega)) hk (h (k - 1) (by omega))
        omega
set_option maxHeartbeats 4000000 in
set_option maxRecDepth 100000 in
theorem rise_any (ao : Option Addr) (n cap : Nat) (f : Nat → Int) (hn : n ≤ 100000) (w : World) (h : One w ao n f) :
    Calls Try.prog 86 #[.slice ao n cap] w (RetS (.bool (allB n (upB f))) w) := by
  have n2 : (n : Int) ≤ 100000 := by omega
  have H := Lib.hid h
  clear h hn
  go_enter Try.func86, Try.ntmps86
  go_wp2_with fail
  go_loopw [3, 8] (fun av iv wr => ∃ i : Nat, i ≤ n ∧ iv = .int .i64 i ∧ av = .int .i64 (ahead f i) ∧ w = wr ∧ (∀ j, j < i → upB f j = true)) (fun _ iv _ => n - (intOf iv).toNat)
  case atStart => exact ⟨0, Nat.zero_le _, rfl, rfl, rfl, fun j hj => by omega⟩
  case round =>
    obtain ⟨i, hi, rfl, rfl, rfl, hup⟩ := hrel
    have hi2 : (i : Int) ≤ n := by omega
    have HU := Lib.hid hup
    have hr := ahead_in hup
    clear hup
    obtain ⟨a, ha⟩ : ∃ a, ahead f i = a := ⟨_, rfl⟩
    have HA := Lib.hid ha
    rw [ha] at hr
    rw [ha]
    clear ha
    have ga : IntKind.i64.wrap (a + 1) = a + 1 := by unfold IntKind.wrap; simp [IntKind.signed, IntKind.bits]; omega
    have gb : wrap64 (a + 1) = a + 1 := Go.IntWalk.wrap64_in _ (by omega)
    by_cases hlt : i < n
    · have hlt2 : (i : Int) < n := by omega
      obtain ⟨b, off, rfl, hb, hc⟩ := H.out (by omega)
      have c0 := hc i hlt
      have HL := Lib.hid hlt
      clear hc hb hlt hi hr
      obtain ⟨y, hy⟩ : ∃ y, f i = y := ⟨_, rfl⟩
      have HY := Lib.hid hy
      rw [hy] at c0
      clear hy
      have HW := Lib.hid (fun W => within_int y (a + 1) 1000 W)
      have HUP : Hid (upB f i = wi (a + 1) 1000 y) := by show upB f i = _; unfold upB; rw [HA.out, HY.out]
      cases hm : wi (a + 1) 1000 y with
      | true =>
        rw [hm] at HW
        rw [hm] at HUP
        clear hm
        go_wp2_with fail
        refine (HW.out _).mono ?_
        rintro e w1 ⟨rfl, rfl⟩
        go_wp2_with fail
        go_roundw
        case rel => exact ⟨i + 1, HL.out, by go_num, by rw [← HY.out]; show _ = Value.int .i64 (ahead f (i + 1)); unfold ahead; rw [if_neg (by omega), Nat.add_sub_cancel], by first | rfl | trivial, fun j hj => by
          by_cases hji : j = i
          · rw [hji]; exact HUP.out
          · exact HU.out j (by omega)⟩
        case measure => have := HL.out; simp [intOf]; omega
      | false =>
        rw [hm] at HW
        rw [hm] at HUP
        clear hm
        rw [allB_false HL.out HUP.out]
        go_wp2_with fail
        refine (HW.out _).mono ?_
        rintro e w1 ⟨rfl, rfl⟩
        go_wp2_with fail
        go_ret
        exact ⟨rfl, rfl⟩
    · obtain rfl : i = n := by omega
      have HE : Hid (allB i (upB f) = true) := decide_eq_true HU.out
      clear hlt hi hi2 hr
      go_wp2_with fail
      go_ret
      exact ⟨by rw [HE.out]; rfl, rfl⟩
end Go.Proofs.Ythmbpoldjddheaa
