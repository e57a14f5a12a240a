/- Tables: rows of one's own: a beginning, what is past a place, a row struck. -/
import Derived.Test.YthmbpoldjddheaaTabClone
import Derived.Test.YthmbpoldjddheaaTabDrop
namespace Go.Proofs.Ythmbpoldjddheaa
open Go.ChangeShapes Go.WideShapes Go.ChangeAt Go.RowKit
theorem rowCells_split (a : Nat → Int) (s : Nat → ByteArray) (p : Nat) : ∀ q, rowCells a s (p + q) = rowCells a s p ++ rowCells (fun t => a (t + p)) (fun t => s (t + p)) q
  | 0 => by simp [rowCells]
  | q + 1 => by
    rw [← Nat.add_assoc, rowCells, rowCells_split a s p q, rowCells, List.append_assoc, Nat.add_comm q p]
theorem rowCells_take (a : Nat → Int) (s : Nat → ByteArray) (n i : Nat) (h : i ≤ n) : (rowCells a s n).take (i * 2) = rowCells a s i := by
  obtain ⟨q, rfl⟩ : ∃ q, n = i + q := ⟨n - i, by omega⟩
  rw [rowCells_split, List.take_append_of_le_length (by rw [rowCells_length]; exact Nat.le_refl _), List.take_of_length_le (by rw [rowCells_length]; exact Nat.le_refl _)]
theorem OwnsR.front {w : World} {B T g n cap i : Nat} {a : Nat → Int} {s : Nat → ByteArray} (h : OwnsR w B T (.slice (some ⟨g, 0, none⟩) n cap) n a s) (hi : i ≤ n) : OwnsR w B T (.slice (some ⟨g, 0, none⟩) i cap) i a s := by
  rcases h.2 with ⟨e, _⟩ | ⟨g', cap', cur, e, h1, h2, h3, h4, h5, h6⟩
  · cases e
  · injection e with e1 e2 e3
    injection e1 with e1
    injection e1 with e1
    subst e1 e3
    refine ⟨by rw [rowCells_length], Or.inr ⟨g, cap, cur, rfl, h1, h2, by omega, h4, h5, ?_⟩⟩
    have := congrArg (List.take (i * 2)) h6
    rw [rowCells_take a s n i hi, List.take_take, Nat.min_eq_left (by omega)] at this
    exact this
theorem rowCells_past (a : Nat → Int) (s : Nat → ByteArray) (i m : Nat) : rowCells a s i ++ rowCells (fun t => a (t + (i + 1))) (fun t => s (t + (i + 1))) m = rowCells (fun t => a (past i t)) (fun t => s (past i t)) (i + m) := by
  rw [rowCells_split]
  congr 1
  · exact rowCells_congr i fun t ht => by unfold past; rw [if_pos ht]; exact ⟨rfl, rfl⟩
  · exact rowCells_congr m fun t ht => by unfold past; rw [if_neg (by omega), show t + i + 1 = t + (i + 1) by omega]; exact ⟨rfl, rfl⟩
/-- A store behind a row of one's own leaves it. -/
theorem ownsRow_behind {w : World} {B T k g n cap o : Nat} {xs : List Value} (h : w.ownsRow B T k (.slice (some ⟨g, 0, none⟩) n cap) n xs) (ho : n * k ≤ o) (u : Value) : (w.setCell ⟨g, o, none⟩ u).ownsRow B T k (.slice (some ⟨g, 0, none⟩) n cap) n xs := by
  rcases h.2 with ⟨e, _⟩ | ⟨g', cap', cur, e, h1, h2, h3, h4, h5, h6⟩
  · cases e
  · injection e with e1 e2 e3
    injection e1 with e1
    injection e1 with e1
    subst e1 e3
    refine ⟨h.1, Or.inr ⟨g, cap, cur.setIfInBounds o u, rfl, h1, heap_setCell_same w g o cur T u h2, h3, h4, by simpa using h5, ?_⟩⟩
    rw [← h6]
    simp only [Array.toList_setIfInBounds]
    rw [List.take_set_of_le ho]
theorem zeroRow : ∀ w, (zeroValue 39).run Try.prog w = .ok (rowV 0 ⟨#[]⟩) w := fun w => by
  have h : (Try.prog.info? 39).map (fun i => i.zero) = some (some (rowV 0 ⟨#[]⟩)) := by kernel_rfl
  obtain ⟨i, hi, hz⟩ := Option.map_eq_some_iff.1 h
  simp [zeroValue, typeInfo, hi, hz]
theorem run_clear_row (w : World) (ty b o c : Nat) (h0 : (w.cell? ⟨b, o, none⟩).isSome = true) (h1 : (w.cell? ⟨b, o + 1, none⟩).isSome = true) (f0 : w.frozen? ⟨b, o, none⟩ = false) (f1 : w.frozen? ⟨b, o + 1, none⟩ = false) :
    (Builtin.clear_ #[33] ty #[.slice (some ⟨b, o, none⟩) 1 c]).run Try.prog w = .ok (.tuple #[]) ((w.setCell ⟨b, o, none⟩ (.int .i64 0)).setCell ⟨b, o + 1, none⟩ (.string ⟨#[]⟩)) := by
  have hst := run_storeCells_cells (P := Try.prog) b o [.int .i64 0, .string ⟨#[]⟩] 0 w (by
    intro j hj
    match j, hj with
    | 0, _ => exact h0
    | 1, _ => exact h1) (by
    intro j hj
    match j, hj with
    | 0, _ => exact f0
    | 1, _ => exact f1) (by
    intro v hv
    simp at hv
    rcases hv with rfl | rfl <;> rfl)
  have hz : (Builtin.zeroCells (Value.agg #[Value.int .i64 0, Value.string ⟨#[]⟩]).cells 1).toList = [.int .i64 0, .string ⟨#[]⟩] := by
    have e : (Value.agg #[Value.int .i64 0, Value.string ⟨#[]⟩]).cells = #[Value.int .i64 0, Value.string ⟨#[]⟩] := rfl
    rw [e]
    unfold Builtin.zeroCells
    simp [Array.toList_map, List.range_succ]
  have hzz := zeroRow w
  unfold rowV at hzz
  simp only [Nat.add_zero] at hst
  unfold Builtin.clear_
  simp [run_underlying Try.underlying33, hzz, hz, hst]
  rfl
theorem ownsRow_some {w : World} {B T k g n cap : Nat} {xs : List Value} (h : w.ownsRow B T k (.slice (some ⟨g, 0, none⟩) n cap) n xs) (o : Nat) (ho : o < cap * k) : (w.cell? ⟨g, o, none⟩).isSome = true := by
  rcases h.2 with ⟨e, _⟩ | ⟨g', cap', cur, e, h1, h2, h3, h4, h5, h6⟩
  · cases e
  · injection e with e1 e2 e3
    injection e1 with e1
    injection e1 with e1
    subst e1 e3
    simp [World.cell?, h2, h5, ho]
theorem rows_behind {w : World} {B T g n cap d : Nat} {a : Nat → Int} {s : Nat → ByteArray} (h : OwnsR w B T (.slice (some ⟨g, 0, none⟩) n cap) n a s) (hd : d ≤ n) (hnc : n ≤ cap) {ao : Option Addr} (hao : ¬ cap = d → ao = some ⟨g, d * 2, none⟩) :
    ∀ ad, ao = some ad → ∀ j u, (rowCells (fun t => a (t + d)) (fun t => s (t + d)) (n - d))[j]? = some u → w.cell? (ad.add j) = some u := by
  intro ad had j u hu
  have hj := (List.getElem?_eq_some_iff.1 hu).1
  rw [rowCells_length] at hj
  rw [hao (by omega)] at had
  obtain rfl := Option.some.inj had
  rw [add_plain, World.ownsRow.cellAt h (d * 2 + j) (by omega)]
  have e : n = d + (n - d) := by omega
  rw [e, rowCells_split, List.getElem?_append_right (by rw [rowCells_length]; omega), rowCells_length, show d * 2 + j - d * 2 = j by omega]
  exact hu
end Go.Proofs.Ythmbpoldjddheaa
