/- A slice of calls. -/
import Derived.Test.YthmbpoldjddheaaTabAwake
namespace Go.Proofs.Ythmbpoldjddheaa
open Go.ChangeShapes Go.WideShapes Go.ChangeAt Go.RowKit
/-- n calls lie at the address, three cells each; of none nothing is said. -/
def TActs (w : World) (ao : Option Addr) (n : Nat) (k x : Nat → Int) (t : Nat → ByteArray) : Prop :=
  0 < n → ∃ b off, ao = some ⟨b, off, none⟩ ∧ b < w.heap.size ∧ ∀ i, i < n → w.cell? ⟨b, off + i * 3, none⟩ = some (.int .i64 (k i)) ∧ w.cell? ⟨b, off + i * 3 + 1, none⟩ = some (.int .i64 (x i)) ∧ w.cell? ⟨b, off + i * 3 + 2, none⟩ = some (.string (t i))
theorem TActs.below {w w' : World} {ao : Option Addr} {n : Nat} {k x : Nat → Int} {t : Nat → ByteArray} (h : TActs w ao n k x t) (hb : Below w.heap.size w w') : TActs w' ao n k x t := fun hn => by
  obtain ⟨b, off, e, hlt, hc⟩ := h hn
  exact ⟨b, off, e, Nat.lt_of_lt_of_le hlt hb.size, fun i hi => ⟨(hb.cell (by exact hlt)).trans (hc i hi).1, (hb.cell (by exact hlt)).trans (hc i hi).2.1, (hb.cell (by exact hlt)).trans (hc i hi).2.2⟩⟩
end Go.Proofs.Ythmbpoldjddheaa
