/- journal.when, first: the first error of what closures tell. -/
import Derived.Test.YtbpaongnehgodaaDoorDskCut
import Derived.Test.YtbpaongnehgodaaDoorDskSync
import Derived.Test.YtbpaongnehgodaaDoorDskWrite
import Derived.Test.YtbpaongnehgodaaDoorDskCrash
import Derived.Laws.EntriesVeiled
import Derived.Shelf.Abstract
namespace Go.Proofs.YtbpaongnehgodaaDoor
open Go.ChangeShapes Go.WideShapes Go.ChangeAt Go.RowKit
theorem when_any (b : Bool) (e : Int) (w : World) : Calls Tryd.prog 19 #[.bool b, .int .i64 e] w (RetS (.int .i64 (if b = true then e else 0)) w) := by
  cases b with
  | true =>
    rw [if_pos rfl]
    go_enter Tryd.func19, Tryd.ntmps19
    go_wp2_with fail
    go_ret
    exact ⟨rfl, rfl⟩
  | false =>
    rw [if_neg (by decide)]
    go_enter Tryd.func19, Tryd.ntmps19
    go_wp2_with fail
    go_ret
    exact ⟨rfl, rfl⟩
/-- What a closure tells. -/
structure Told (gf : Nat) (caps : Array Value) (Inv : World → Prop) (e : Int) : Prop where
  enter : ∀ args w, (callFunc gf args).run Tryd.prog w = .ok (.enter gf args) w
  calls : ∀ W, Inv W → Calls Tryd.prog gf caps W (fun en w' => en = .returned (.int .i64 e) ∧ Inv w')
/-- The first error of three. -/
def first3 (a b c : Int) : Int := if a ≠ 0 then a else if b ≠ 0 then b else c
set_option maxHeartbeats 4000000 in
theorem first3_any (g0 g1 g2 : Nat) (p0 p1 p2 : Array Value) (a b c : Int) (Inv : World → Prop) (h0 : Told g0 p0 Inv a) (h1 : Told g1 p1 Inv b) (h2 : Told g2 p2 Inv c) (k cap : Nat) (w : World) (hi : Inv w)
    (hk : ∀ W, Inv W → W.cell? ⟨k, 0, none⟩ = some (.func (.func g0) #[] p0) ∧ W.cell? ⟨k, 1, none⟩ = some (.func (.func g1) #[] p1) ∧ W.cell? ⟨k, 2, none⟩ = some (.func (.func g2) #[] p2)) :
    Calls Tryd.prog 16 #[.slice (some ⟨k, 0, none⟩) 3 cap] w (fun en w' => en = .returned (.int .i64 (first3 a b c)) ∧ Inv w') := by
  have e0 := h0.enter
  have e1 := h1.enter
  have e2 := h2.enter
  have H0 := Lib.hid h0.calls
  have H1 := Lib.hid h1.calls
  have H2 := Lib.hid h2.calls
  have HK := Lib.hid hk
  have HI := Lib.hid hi
  obtain ⟨k0, k1, k2⟩ := hk w hi
  clear h0 h1 h2 hk hi
  have HV : Hid ((a ≠ 0 → first3 a b c = a) ∧ (a = 0 → b ≠ 0 → first3 a b c = b) ∧ (a = 0 → b = 0 → first3 a b c = c)) := by
    refine ⟨fun h => if_pos h, fun h h2 => ?_, fun h h2 => ?_⟩
    · unfold first3; rw [if_neg (by simp [h]), if_pos h2]
    · unfold first3; rw [if_neg (by simp [h]), if_neg (by simp [h2])]
  obtain ⟨F, hF⟩ : ∃ F, first3 a b c = F := ⟨_, rfl⟩
  rw [hF] at HV ⊢
  clear hF
  go_enter Tryd.func16, Tryd.ntmps16
  go_wp2_with fail
  go_loopw [8] (fun iv wr => ∃ j : Nat, iv = .int .i64 j ∧ Inv wr ∧ (j = 0 ∨ (j = 1 ∧ a = 0) ∨ (j = 2 ∧ a = 0 ∧ b = 0) ∨ (j = 3 ∧ a = 0 ∧ b = 0 ∧ c = 0))) (fun iv _ => 3 - (intOf iv).toNat)
  case atStart => exact ⟨0, rfl, HI.out, Or.inl rfl⟩
  case round =>
    obtain ⟨j, rfl, hinv, hj⟩ := hrel
    obtain ⟨m0, m1, m2⟩ := HK.out wr hinv
    have HN := Lib.hid hinv
    clear hinv k0 k1 k2
    rcases hj with rfl | ⟨rfl, ha⟩ | ⟨rfl, ha, hb⟩ | ⟨rfl, ha, hb, hc⟩
    · by_cases hz : a = 0
      · have d1 : (a == 0) = true := by simp [hz]
        have d2 : (a != 0) = false := by simp [hz]
        have HZ := Lib.hid hz
        clear hz
        go_wp2_with fail
        go_at_fn g0
        refine (H0.out wr HN.out).mono ?_
        rintro en w2 ⟨rfl, hi2⟩
        go_wp2_with fail
        go_roundw
        case rel => exact ⟨1, rfl, hi2, Or.inr (Or.inl ⟨rfl, HZ.out⟩)⟩
        case measure => simp [intOf]
      · have d1 : (a == 0) = false := by simp [hz]
        have d2 : (a != 0) = true := by simp [hz]
        have HFV : Hid (F = a) := HV.out.1 hz
        clear hz
        go_wp2_with fail
        go_at_fn g0
        refine (H0.out wr HN.out).mono ?_
        rintro en w2 ⟨rfl, hi2⟩
        go_wp2_with fail
        go_ret
        exact ⟨by rw [HFV.out]; rfl, hi2⟩
    · by_cases hz : b = 0
      · have d1 : (b == 0) = true := by simp [hz]
        have d2 : (b != 0) = false := by simp [hz]
        have HZ := Lib.hid hz
        clear hz
        go_wp2_with fail
        go_at_fn g1
        refine (H1.out wr HN.out).mono ?_
        rintro en w2 ⟨rfl, hi2⟩
        go_wp2_with fail
        go_roundw
        case rel => exact ⟨2, rfl, hi2, Or.inr (Or.inr (Or.inl ⟨rfl, ha, HZ.out⟩))⟩
        case measure => simp [intOf]
      · have d1 : (b == 0) = false := by simp [hz]
        have d2 : (b != 0) = true := by simp [hz]
        have HFV : Hid (F = b) := HV.out.2.1 ha hz
        clear hz
        go_wp2_with fail
        go_at_fn g1
        refine (H1.out wr HN.out).mono ?_
        rintro en w2 ⟨rfl, hi2⟩
        go_wp2_with fail
        go_ret
        exact ⟨by rw [HFV.out]; rfl, hi2⟩
    · by_cases hz : c = 0
      · have d1 : (c == 0) = true := by simp [hz]
        have d2 : (c != 0) = false := by simp [hz]
        have HZ := Lib.hid hz
        clear hz
        go_wp2_with fail
        go_at_fn g2
        refine (H2.out wr HN.out).mono ?_
        rintro en w2 ⟨rfl, hi2⟩
        go_wp2_with fail
        go_roundw
        case rel => exact ⟨3, rfl, hi2, Or.inr (Or.inr (Or.inr ⟨rfl, ha, hb, HZ.out⟩))⟩
        case measure => simp [intOf]
      · have d1 : (c == 0) = false := by simp [hz]
        have d2 : (c != 0) = true := by simp [hz]
        have HFV : Hid (F = c) := HV.out.2.2 ha hb
        clear hz
        go_wp2_with fail
        go_at_fn g2
        refine (H2.out wr HN.out).mono ?_
        rintro en w2 ⟨rfl, hi2⟩
        go_wp2_with fail
        go_ret
        exact ⟨by rw [HFV.out]; rfl, hi2⟩
    · have HFV : Hid (F = 0) := (HV.out.2.2 ha hb).trans hc
      clear ha hb hc
      go_wp2_with fail
      go_ret
      exact ⟨by rw [HFV.out]; rfl, HN.out⟩
end Go.Proofs.YtbpaongnehgodaaDoor
