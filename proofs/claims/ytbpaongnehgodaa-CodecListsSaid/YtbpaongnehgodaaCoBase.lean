/- Commands: what a kind has; the values of one, set by whatever closure. -/
import Derived.Test.YtbpaongnehgodaaNumRdRef
import Derived.Laws.EntriesVeiled
namespace Go.Proofs.Ytbpaongnehgodaa
open Go.ChangeShapes Go.WideShapes Go.ChangeAt Go.RowKit
/-- A command's numbers. -/
structure Cm where
  k : Int
  i : Int
  m : Int
  o : Int
  s : Int
  q : Int
  p : Int
/-- A command lies at g. -/
def CB (w : World) (g : Nat) (c : Cm) : Prop := w.heap[g]? = some (.cells #[.int .i64 c.k, .int .i64 c.i, .int .i64 c.m, .int .i64 c.o, .int .i64 c.s, .int .i64 c.q, .int .i64 c.p] 23 (0, 0))
/-- A command, as a value. -/
abbrev cmv (c : Cm) : Value := .agg #[.int .i64 c.k, .int .i64 c.i, .int .i64 c.m, .int .i64 c.o, .int .i64 c.s, .int .i64 c.q, .int .i64 c.p]
/-- What a kind has, in bits. -/
def hasB (k : Int) : Int := if k = 2 then 63 else if k = 3 then 1 else if k = 4 ∨ k = 8 ∨ k = 9 then 18 else if k = 5 ∨ k = 6 then 26 else if k = 7 then 58 else 0
def isK (k : Int) : Bool := decide (1 ≤ k ∧ k ≤ 10)
theorem kinds (k : Int) : k = 1 ∨ k = 2 ∨ k = 3 ∨ k = 4 ∨ k = 5 ∨ k = 6 ∨ k = 7 ∨ k = 8 ∨ k = 9 ∨ k = 10 ∨ ¬ (1 ≤ k ∧ k ≤ 10) := by omega
theorem has_any (k : Int) (w : World) : Calls Try.prog 22 #[.int .i64 k] w (RetS (.tuple #[.int .i64 (hasB k), .bool (isK k)]) w) := by
  rcases kinds k with rfl | rfl | rfl | rfl | rfl | rfl | rfl | rfl | rfl | rfl | h
  iterate 10
    · go_enter Try.func22, Try.ntmps22
      go_wp2_with fail
      go_ret2
      exact ⟨rfl, rfl⟩
  · have e1 : (k == 1) = false := by rw [beq_eq_false_iff_ne]; omega
    have e2 : (k == 2) = false := by rw [beq_eq_false_iff_ne]; omega
    have e3 : (k == 3) = false := by rw [beq_eq_false_iff_ne]; omega
    have e4 : (k == 4) = false := by rw [beq_eq_false_iff_ne]; omega
    have e5 : (k == 5) = false := by rw [beq_eq_false_iff_ne]; omega
    have e6 : (k == 6) = false := by rw [beq_eq_false_iff_ne]; omega
    have e7 : (k == 7) = false := by rw [beq_eq_false_iff_ne]; omega
    have e8 : (k == 8) = false := by rw [beq_eq_false_iff_ne]; omega
    have e9 : (k == 9) = false := by rw [beq_eq_false_iff_ne]; omega
    have e10 : (k == 10) = false := by rw [beq_eq_false_iff_ne]; omega
    have HV : Hid (hasB k = 0 ∧ isK k = false) := by
      show _ ∧ _
      unfold hasB isK
      exact ⟨by repeat rw [if_neg (by omega)], decide_eq_false h⟩
    clear h
    go_enter Try.func22, Try.ntmps22
    go_wp2_with fail
    go_ret2
    rw [HV.out.1, HV.out.2]
    exact ⟨rfl, rfl⟩
end Go.Proofs.Ytbpaongnehgodaa
