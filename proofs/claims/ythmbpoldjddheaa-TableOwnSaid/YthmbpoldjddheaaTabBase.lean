/- Tables: rows of a number and a text. -/
import Derived.Test.YthmbpoldjddheaaSCmp
import Derived.Deep.RegionHeld3
import Derived.IntWalk
namespace Go.Proofs.Ythmbpoldjddheaa
open Go.ChangeShapes Go.WideShapes Go.ChangeAt Go.RowKit
/-- A row as a value. -/
def rowV (a : Int) (s : ByteArray) : Value := .agg #[.int .i64 a, .string s]
/-- n rows lie at the address, two cells each; of none nothing is said. -/
def RowsAt (w : World) (ao : Option Addr) (n : Nat) (a : Nat → Int) (s : Nat → ByteArray) : Prop :=
  0 < n → ∃ b off, ao = some ⟨b, off, none⟩ ∧ b < w.heap.size ∧ ∀ i, i < n → w.cell? ⟨b, off + i * 2, none⟩ = some (.int .i64 (a i)) ∧ w.cell? ⟨b, off + i * 2 + 1, none⟩ = some (.string (s i))
theorem RowsAt.below {w w' : World} {ao : Option Addr} {n : Nat} {a : Nat → Int} {s : Nat → ByteArray} (h : RowsAt w ao n a s) (hb : Below w.heap.size w w') : RowsAt w' ao n a s := fun hn => by
  obtain ⟨b, off, e, hlt, hc⟩ := h hn
  exact ⟨b, off, e, Nat.lt_of_lt_of_le hlt hb.size, fun i hi => ⟨(hb.cell (by exact hlt)).trans (hc i hi).1, (hb.cell (by exact hlt)).trans (hc i hi).2⟩⟩
/-- The place of the first row that is not below x. -/
structure Place (a : Nat → Int) (n : Nat) (x : Int) (p : Nat) : Prop where
  le : p ≤ n
  lo : ∀ i, i < p → a i < x
  hi : ∀ i, p ≤ i → i < n → x ≤ a i
/-- By rising numbers. -/
def Rises (a : Nat → Int) (n : Nat) : Prop := ∀ i j, i < j → j < n → a i < a j
theorem Place.one {a : Nat → Int} {n : Nat} {x : Int} {p q : Nat} (h : Place a n x p) (h' : Place a n x q) : p = q := by
  rcases Nat.lt_trichotomy p q with l | l | l
  · have := h'.lo p l; have := h.hi p (Nat.le_refl _) (by have := h'.le; omega); omega
  · exact l
  · have := h.lo q l; have := h'.hi q (Nat.le_refl _) (by have := h.le; omega); omega
set_option maxHeartbeats 1000000 in
theorem rowcmp_any (a x : Int) (s : ByteArray) (w : World) :
    Calls Try.prog 74 #[rowV a s, .int .i64 x] w (Ret (.int .i64 (cmp3 a x)) w) := by
  have HC := Lib.hid (fun (W : World) => compare_any a x W)
  unfold rowV
  go_enter Try.func74, Try.ntmps74
  go_wp2_with fail
  refine (HC.out _).mono ?_
  rintro e w1 ⟨rfl, rfl⟩
  go_wp2
  go_ret
  exact ⟨rfl, by go_grown⟩
end Go.Proofs.Ythmbpoldjddheaa
