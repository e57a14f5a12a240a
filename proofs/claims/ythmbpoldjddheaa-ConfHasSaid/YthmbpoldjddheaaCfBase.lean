/- Configs: rows of two and of four numbers; within; may a member, a security be. -/
import Derived.Test.YthmbpoldjddheaaNBase
import Derived.WalkKit
import Derived.IntWalk
import Derived.Deep.QuietTactic
import Derived.BigQuiet
import Derived.BigRegion
import Derived.Lib.Hide
import Derived.Deep.RegionHeld3
import Derived.Deep.RegionLaw
import Derived.Deep.AppendLies
import Derived.Shelf.Abstract
namespace Go.Proofs.Ythmbpoldjddheaa
open Go.ChangeShapes Go.WideShapes Go.ChangeAt Go.RowKit
/-- n numbers lie at the address; of none nothing is said. -/
def One (w : World) (ao : Option Addr) (n : Nat) (a : Nat → Int) : Prop :=
  0 < n → ∃ g off, ao = some ⟨g, off, none⟩ ∧ g < w.heap.size ∧ ∀ i, i < n → w.cell? ⟨g, off + i, none⟩ = some (.int .i64 (a i))
theorem One.below {w w' : World} {ao : Option Addr} {n : Nat} {a : Nat → Int} (h : One w ao n a) (hb : Below w.heap.size w w') : One w' ao n a := fun hn => by
  obtain ⟨g, off, e, hlt, hc⟩ := h hn
  exact ⟨g, off, e, Nat.lt_of_lt_of_le hlt hb.size, fun i hi => (hb.cell (by exact hlt)).trans (hc i hi)⟩
/-- n pairs of numbers lie at the address; of none nothing is said. -/
def Two (w : World) (ao : Option Addr) (n : Nat) (a b : Nat → Int) : Prop :=
  0 < n → ∃ g off, ao = some ⟨g, off, none⟩ ∧ g < w.heap.size ∧ ∀ i, i < n → w.cell? ⟨g, off + i * 2, none⟩ = some (.int .i64 (a i)) ∧ w.cell? ⟨g, off + i * 2 + 1, none⟩ = some (.int .i64 (b i))
theorem Two.below {w w' : World} {ao : Option Addr} {n : Nat} {a b : Nat → Int} (h : Two w ao n a b) (hb : Below w.heap.size w w') : Two w' ao n a b := fun hn => by
  obtain ⟨g, off, e, hlt, hc⟩ := h hn
  exact ⟨g, off, e, Nat.lt_of_lt_of_le hlt hb.size, fun i hi => ⟨(hb.cell (by exact hlt)).trans (hc i hi).1, (hb.cell (by exact hlt)).trans (hc i hi).2⟩⟩
/-- n rows of four numbers lie at the address; of none nothing is said. -/
def Four (w : World) (ao : Option Addr) (n : Nat) (a b c d : Nat → Int) : Prop :=
  0 < n → ∃ g off, ao = some ⟨g, off, none⟩ ∧ g < w.heap.size ∧ ∀ i, i < n → w.cell? ⟨g, off + i * 4, none⟩ = some (.int .i64 (a i)) ∧ w.cell? ⟨g, off + i * 4 + 1, none⟩ = some (.int .i64 (b i)) ∧ w.cell? ⟨g, off + i * 4 + 2, none⟩ = some (.int .i64 (c i)) ∧ w.cell? ⟨g, off + i * 4 + 3, none⟩ = some (.int .i64 (d i))
theorem Four.below {w w' : World} {ao : Option Addr} {n : Nat} {a b c d : Nat → Int} (h : Four w ao n a b c d) (hb : Below w.heap.size w w') : Four w' ao n a b c d := fun hn => by
  obtain ⟨g, off, e, hlt, hc⟩ := h hn
  exact ⟨g, off, e, Nat.lt_of_lt_of_le hlt hb.size, fun i hi => ⟨(hb.cell (by exact hlt)).trans (hc i hi).1, (hb.cell (by exact hlt)).trans (hc i hi).2.1, (hb.cell (by exact hlt)).trans (hc i hi).2.2.1, (hb.cell (by exact hlt)).trans (hc i hi).2.2.2⟩⟩
theorem keepB {w w' : World} {g : Nat} {o : Obj} (h : w.heap[g]? = some o) (hb : Below w.heap.size w w') : w'.heap[g]? = some o := (hb.block g (lt_of_block h)).trans h
theorem keepA {w : World} {g : Nat} {o : Obj} (h : w.heap[g]? = some o) (o' : Obj) : (w.alloc o').heap[g]? = some o := (Below.heap_alloc _ _ _ (lt_of_block h)).trans h
theorem boxB {w w1 : World} {cs : Array Value} {ty : TypeId} (h : Below (w.alloc (.cells cs ty)).heap.size (w.alloc (.cells cs ty)) w1) : w1.heap[w.heap.size]? = some (.cells cs ty (0, 0)) := (h.block _ (by simp)).trans (heap_alloc_new _ _)
theorem belowB {w w1 : World} {o : Obj} (h : Below (w.alloc o).heap.size (w.alloc o) w1) : Below w.heap.size w w1 := ((Below.refl _ _).alloc (Nat.le_refl _) _).trans (h.mono (by simp))
/-- Is a number from one to another one? -/
def wi (l m a : Int) : Bool := decide (l ≤ a) && decide (a ≤ m)
theorem within_int (a l m : Int) (w : World) : Calls Try.prog 79 #[.int .i64 a, .int .i64 l, .int .i64 m] w (RetS (.bool (wi l m a)) w) := by
  unfold wi
  by_cases h1 : l ≤ a
  · have d1 : decide (l ≤ a) = true := decide_eq_true h1
    rw [d1, Bool.true_and]
    clear h1
    go_enter Try.func79, Try.ntmps79
    go_wp2_with fail
    go_ret
    exact ⟨rfl, rfl⟩
  · have d1 : decide (l ≤ a) = false := decide_eq_false h1
    rw [d1, Bool.false_and]
    clear h1
    go_enter Try.func79, Try.ntmps79
    go_wp2_with fail
    go_ret
    exact ⟨rfl, rfl⟩
theorem within_i64 (a l m : Int) (w : World) : Calls Try.prog 88 #[.int .i64 a, .int .i64 l, .int .i64 m] w (RetS (.bool (wi l m a)) w) := by
  unfold wi
  by_cases h1 : l ≤ a
  · have d1 : decide (l ≤ a) = true := decide_eq_true h1
    rw [d1, Bool.true_and]
    clear h1
    go_enter Try.func88, Try.ntmps88
    go_wp2_with fail
    go_ret
    exact ⟨rfl, rfl⟩
  · have d1 : decide (l ≤ a) = false := decide_eq_false h1
    rw [d1, Bool.false_and]
    clear h1
    go_enter Try.func88, Try.ntmps88
    go_wp2_with fail
    go_ret
    exact ⟨rfl, rfl⟩
theorem in_any (a l m : Int) (w : World) : Calls Try.prog 63 #[.int .i64 a, .int .i64 l, .int .i64 m] w (RetS (.bool (wi l m a)) w) := by
  unfold wi
  by_cases h1 : l ≤ a
  · have d1 : decide (l ≤ a) = true := decide_eq_true h1
    rw [d1, Bool.true_and]
    clear h1
    go_enter Try.func63, Try.ntmps63
    go_wp2_with fail
    go_ret
    exact ⟨rfl, rfl⟩
  · have d1 : decide (l ≤ a) = false := decide_eq_false h1
    rw [d1, Bool.false_and]
    clear h1
    go_enter Try.func63, Try.ntmps63
    go_wp2_with fail
    go_ret
    exact ⟨rfl, rfl⟩
def mMay (c f : Int) : Bool := wi 0 1099511627776 c && wi 0 1099511627776 f
def sMay (p c : Int) : Bool := wi 1 1048576 p && wi p 1048576 c
theorem membermay_any (a b : Int) (w : World) : Calls Try.prog 81 #[.agg #[.int .i64 a, .int .i64 b]] w (Ret (.bool (mMay a b)) w) := by
  have H1 := Lib.hid (fun W => within_i64 a 0 1099511627776 W)
  have H2 := Lib.hid (fun W => within_i64 b 0 1099511627776 W)
  unfold mMay
  cases hb : wi 0 1099511627776 a with
  | true =>
    rw [hb] at H1
    rw [Bool.true_and]
    clear hb
    go_enter Try.func81, Try.ntmps81
    go_wp2_with fail
    refine (H1.out _).mono ?_
    rintro e w1 ⟨rfl, rfl⟩
    go_wp2_with fail
    refine (H2.out _).mono ?_
    rintro e w1 ⟨rfl, rfl⟩
    go_wp2_with fail
    go_ret
    exact ⟨rfl, by go_grown⟩
  | false =>
    rw [hb] at H1
    rw [Bool.false_and]
    clear hb
    go_enter Try.func81, Try.ntmps81
    go_wp2_with fail
    refine (H1.out _).mono ?_
    rintro e w1 ⟨rfl, rfl⟩
    go_wp2_with fail
    go_ret
    exact ⟨rfl, by go_grown⟩
theorem secmay_any (a b : Int) (w : World) : Calls Try.prog 84 #[.agg #[.int .i64 a, .int .i64 b]] w (Ret (.bool (sMay a b)) w) := by
  have H1 := Lib.hid (fun W => within_i64 a 1 1048576 W)
  have H2 := Lib.hid (fun W => within_i64 b a 1048576 W)
  unfold sMay
  cases hb : wi 1 1048576 a with
  | true =>
    rw [hb] at H1
    rw [Bool.true_and]
    clear hb
    go_enter Try.func84, Try.ntmps84
    go_wp2_with fail
    refine (H1.out _).mono ?_
    rintro e w1 ⟨rfl, rfl⟩
    go_wp2_with fail
    refine (H2.out _).mono ?_
    rintro e w1 ⟨rfl, rfl⟩
    go_wp2_with fail
    go_ret
    exact ⟨rfl, by go_grown⟩
  | false =>
    rw [hb] at H1
    rw [Bool.false_and]
    clear hb
    go_enter Try.func84, Try.ntmps84
    go_wp2_with fail
    refine (H1.out _).mono ?_
    rintro e w1 ⟨rfl, rfl⟩
    go_wp2_with fail
    go_ret
    exact ⟨rfl, by go_grown⟩
/-- Is it so of each of the first n? -/
def allB (n : Nat) (p : Nat → Bool) : Bool := decide (∀ i, i < n → p i = true)
end Go.Proofs.Ythmbpoldjddheaa
