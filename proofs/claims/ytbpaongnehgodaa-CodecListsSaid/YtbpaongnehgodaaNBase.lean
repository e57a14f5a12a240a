/- What a call returns; amounts; rows of amounts. -/
import Derived.Test.YtbpaongnehgodaaRows
import Derived.WalkKit
import Derived.ProofKit
import Derived.OpenShut
import Derived.Handy
import Derived.Lib.Hide
import Derived.WalkLawsBesides
import Derived.Deep.QuietTactic
import Derived.BigQuiet
import Derived.Deep.Cut
namespace Go.Proofs.Ytbpaongnehgodaa
open Go.ChangeShapes Go.WideShapes Go.ChangeAt Go.RowKit
def Ret (v : Value) (w : World) (e : Ending) (w' : World) : Prop := e = .returned v ∧ Below w.heap.size w w'
/-- It returns v, and the world is as it was. -/
def RetS (v : Value) (w : World) (e : Ending) (w' : World) : Prop := e = .returned v ∧ w = w'
/-- An amount, or that it is none. -/
def amt (n : Int) : Value := if -9223372036854775808 ≤ n ∧ n ≤ 9223372036854775807 then .tuple #[.int .i64 n, .int .i64 0] else .tuple #[.int .i64 0, .int .i64 2]
theorem amt_in {n : Int} (h : -9223372036854775808 ≤ n ∧ n ≤ 9223372036854775807) : amt n = .tuple #[.int .i64 n, .int .i64 0] := by rw [amt, if_pos h]
theorem amt_out {n : Int} (h : ¬ (-9223372036854775808 ≤ n ∧ n ≤ 9223372036854775807)) : amt n = .tuple #[.int .i64 0, .int .i64 2] := by rw [amt, if_neg h]
theorem amt_form (n : Int) : ∃ (x e : Int), amt n = .tuple #[.int .i64 x, .int .i64 e] := by
  unfold amt
  split
  · exact ⟨_, _, rfl⟩
  · exact ⟨_, _, rfl⟩
/-- n amounts lie at the address; of none nothing is said. -/
def IntsAt (w : World) (ao : Option Addr) (n : Nat) (z : Nat → Int) : Prop :=
  0 < n → ∃ b off, ao = some ⟨b, off, none⟩ ∧ b < w.heap.size ∧ ∀ i, i < n → w.cell? ⟨b, off + i, none⟩ = some (.int .i64 (z i))
theorem IntsAt.below {w w' : World} {ao : Option Addr} {n : Nat} {z : Nat → Int} (h : IntsAt w ao n z) (hb : Below w.heap.size w w') : IntsAt w' ao n z := fun hn => by
  obtain ⟨b, off, e, hlt, hc⟩ := h hn
  exact ⟨b, off, e, Nat.lt_of_lt_of_le hlt hb.size, fun i hi => (hb.cell (by exact hlt)).trans (hc i hi)⟩
theorem IntsAt.congr {w : World} {ao : Option Addr} {n : Nat} {z y : Nat → Int} (h : IntsAt w ao n z) (e : ∀ i, i < n → z i = y i) : IntsAt w ao n y := fun hn => by
  obtain ⟨b, off, e1, hlt, hc⟩ := h hn
  exact ⟨b, off, e1, hlt, fun i hi => by rw [← e i hi]; exact hc i hi⟩
end Go.Proofs.Ytbpaongnehgodaa
