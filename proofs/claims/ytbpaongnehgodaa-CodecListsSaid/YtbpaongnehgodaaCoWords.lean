/- The words of kinds, and the kinds of words. -/
import Derived.Test.YtbpaongnehgodaaNumRdRef
namespace Go.Proofs.Ytbpaongnehgodaa
open Go.ChangeShapes Go.WideShapes Go.ChangeAt Go.RowKit
/-- A kind's word. -/
def wordN : Nat → ByteArray
  | 1 => ⟨#[111, 112, 101, 110]⟩
  | 2 => ⟨#[116, 114, 97, 100, 101]⟩
  | 3 => ⟨#[99, 97, 110, 99, 101, 108]⟩
  | 4 => ⟨#[112, 97, 121]⟩
  | 5 => ⟨#[100, 101, 108, 105, 118, 101, 114]⟩
  | 6 => ⟨#[114, 101, 99, 97, 108, 108]⟩
  | 7 => ⟨#[98, 105, 100]⟩
  | 8 => ⟨#[116, 111, 112]⟩
  | 9 => ⟨#[100, 114, 97, 119]⟩
  | 10 => ⟨#[116, 105, 99, 107]⟩
  | _ => ⟨#[]⟩
theorem word_in (n : Nat) (h : 1 ≤ n ∧ n ≤ 10) (w : World) : Calls Try.prog 21 #[.int .i64 (n : Int)] w (Ret (.string (wordN n)) w) := by
  obtain ⟨h1, h2⟩ := h
  have : n = 1 ∨ n = 2 ∨ n = 3 ∨ n = 4 ∨ n = 5 ∨ n = 6 ∨ n = 7 ∨ n = 8 ∨ n = 9 ∨ n = 10 := by omega
  clear h1 h2
  rcases this with rfl | rfl | rfl | rfl | rfl | rfl | rfl | rfl | rfl | rfl <;>
  · go_enter Try.func21, Try.ntmps21
    go_wp2_with fail
    go_ret
    exact ⟨rfl, by go_grown⟩
theorem word_out (k : Int) (h : ¬ (1 ≤ k ∧ k ≤ 10)) (w : World) : Calls Try.prog 21 #[.int .i64 k] w (Ret (.string ⟨#[]⟩) w) := by
  have e1 : (k == 1) = false := by rw [beq_eq_false_iff_ne]; omega
  have e2 : (k == 2) = false := by rw [beq_eq_false_iff_ne]; omega
  have e3 : (k == 3) = false := by rw [beq_eq_false_iff_ne]; omega
  have e4 : (k == 4) = false := by rw [beq_eq_false_iff_ne]; omega
  have e5 : (k == 5) = false := by rw [beq_eq_false_iff_ne]; omega
  have e6 : (k == 6) = false := by rw [beq_eq_false_iff_ne]; omega
  have e7 : (k == 7) = false := by rw [beq_eq_false_iff_ne]; omega
  have e8 : (k == 8) = false := by rw [beq_eq_false_iff_ne]; omega
  have e9 : (k == 9) = false := by rw [beq_eq_false_iff_ne]; omega
  have e10 : (k == 10) = false := by rw [beq_eq_false_iff_ne]; omega
  clear h
  go_enter Try.func21, Try.ntmps21
  go_wp2_with fail
  go_ret
  exact ⟨rfl, by go_grown⟩
end Go.Proofs.Ytbpaongnehgodaa
