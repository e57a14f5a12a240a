/- The document's Same, of rows that are. -/
import Derived.Test.YtbpaongnehgodaaCoAllR
namespace Go.Proofs.Ytbpaongnehgodaa
open Go.ChangeShapes Go.WideShapes Go.ChangeAt Go.RowKit
set_option maxHeartbeats 4000000 in
theorem csame_any (f : Nat → Cm) (ao bo : Option Addr) (n cap cap2 : Nat) (hn : n ≤ 100000) (w : World) (h : CmsAt w ao n f) (h2 : CmsAt w bo n f) :
    Calls Try.prog 18 #[.slice ao n cap, .slice bo n cap2] w (Ret (.bool true) w) := by
  have hn2 : (n : Int) ≤ 100000 := by omega
  have H1 := Lib.hid h
  have H2 := Lib.hid h2
  have d0 : ((n : Int) != n) = false := by simp
  clear h h2 hn
  go_enter Try.func18, Try.ntmps18
  go_wp2_with fail
  go_loopw [5] (fun iv wr => ∃ k : Nat, k ≤ n ∧ iv = .int .i64 k ∧ Below w.heap.size w wr) (fun iv _ => n - (intOf iv).toNat)
  case atStart => exact ⟨0, Nat.zero_le _, rfl, by go_grown⟩
  case round =>
    obtain ⟨k, hk, rfl, hbel⟩ := hrel
    have hk2 : (k : Int) ≤ n := by omega
    have HB := Lib.hid hbel
    by_cases hlt : k < n
    · have hlt2 : (k : Int) < n := by omega
      have HLT := Lib.hid hlt
      obtain ⟨b, off, rfl, hblt, hcs⟩ := H1.out.below hbel (by omega)
      obtain ⟨c0, c1, c2, c3, c4, c5, c6⟩ := hcs k hlt
      obtain ⟨b', off', rfl, hblt', hcs'⟩ := H2.out.below hbel (by omega)
      obtain ⟨e0, e1, e2, e3, e4, e5, e6⟩ := hcs' k hlt
      have heq : ∀ W, (binOp .neq 23 (cmv (f k)) (cmv (f k))).run Try.prog W = .ok (.bool false) W := fun W => by rw [run_neq_cm, cmEq_iff.2 rfl]; rfl
      obtain ⟨c, hc⟩ : ∃ c, f k = c := ⟨_, rfl⟩
      rw [hc] at heq c0 c1 c2 c3 c4 c5 c6 e0 e1 e2 e3 e4 e5 e6
      clear hcs hcs' hblt hblt' hbel hlt hc
      go_wp2_with fail
      go_region
      all_goals
        go_wp2_with fail
        go_roundw
        case rel => exact ⟨k + 1, by have := HLT.out; omega, by go_num, HB.out.drew⟩
        case measure => have := HLT.out; simp [intOf]; omega
    · have heq : k = n := by omega
      subst heq
      have hlt2 : ¬ ((k : Nat) : Int) < k := by omega
      clear hbel
      go_wp2_with fail
      go_ret
      exact ⟨rfl, HB.out⟩
end Go.Proofs.Ytbpaongnehgodaa
