/- Rows of numbers that a call made itself: as functions of the place. -/
import Derived.Test.YtncbieaobadekaaSBase
import Derived.RegionTactic
import Derived.ChangeAlike
import Derived.BigRegion
import Derived.OneCell
import Derived.OwnWalk
import Derived.Laws.OwnMore
import Derived.Deep.OwnRows
namespace Go.Proofs.Ytncbieaobadekaa
open Go.ChangeShapes Go.WideShapes Go.ChangeAt Go.RowKit
/-- Block g holds n numbers, f's. -/
def RowF (w : World) (g n : Nat) (f : Nat → Int) : Prop := w.heap[g]? = some (.cells ((List.range n).map (fun i => Value.int .i64 (f i))).toArray 3 (0, 0))
/-- Nothing has turned but block g, and what is new. -/
abbrev Gr (g : Nat) (w w' : World) : Prop := w.grownBy w' (some g)
theorem gr_refl (g : Nat) (w : World) : Gr g w w := ⟨rfl, rfl, rfl, Nat.le_refl _, fun _ _ _ => rfl⟩
theorem gr_trans {g : Nat} {a b c : World} (h : Gr g a b) (k : Gr g b c) : Gr g a c :=
  ⟨k.os.trans h.os, k.tape.trans h.tape, k.output.trans h.output, Nat.le_trans h.size k.size, fun i hi hne => (k.block i (Nat.lt_of_lt_of_le hi h.size) hne).trans (h.block i hi hne)⟩
theorem gr_set {g : Nat} {a b : World} (h : Gr g a b) (o : Nat) (u : Value) : Gr g a (b.setCell ⟨g, o, none⟩ u) :=
  gr_trans h ⟨rfl, rfl, rfl, by simp [World.setCell], fun k _ hne => Below.heap_setCell _ _ _ _ (fun e => hne (by rw [e]))⟩
theorem gr_drew {g : Nat} {a b : World} (h : Gr g a b) : Gr g a b.drew := ⟨h.os, h.tape, h.output, h.size, h.block⟩
theorem gr_below {g : Nat} {a b : World} (h : Below a.heap.size a b) : Gr g a b := ⟨h.os, h.tape, h.output, h.size, fun k hk _ => h.block k hk⟩
theorem RowF.cell {w : World} {g n : Nat} {f : Nat → Int} (h : RowF w g n f) (j : Nat) (hj : j < n) : w.cell? ⟨g, j, none⟩ = some (.int .i64 (f j)) := by
  unfold RowF at h
  simp [World.cell?, h, hj]
theorem RowF.free {w : World} {g n : Nat} {f : Nat → Int} (h : RowF w g n f) (j : Nat) : w.frozen? ⟨g, j, none⟩ = false := by
  unfold RowF at h
  simp [World.frozen?, h]
/-- f, but for one place. -/
def put (f : Nat → Int) (j : Nat) (x : Int) : Nat → Int := fun i => if i = j then x else f i
theorem RowF.store {w : World} {g n : Nat} {f : Nat → Int} (h : RowF w g n f) (j : Nat) (x : Int) : RowF (w.setCell ⟨g, j, none⟩ (.int .i64 x)) g n (put f j x) := by
  unfold RowF at *
  have hlt := lt_of_block h
  have h' : w.heap[g] = .cells ((List.range n).map (fun i => Value.int .i64 (f i))).toArray 3 (0, 0) := by simpa [Array.getElem?_eq_getElem hlt] using h
  show (w.heap.modify g _)[g]? = _
  rw [Array.getElem?_eq_getElem (by simpa using hlt), Array.getElem_modify_self, h']
  show some (Obj.cells ((((List.range n).map (fun i => Value.int .i64 (f i))).toArray).setIfInBounds j (.int .i64 x)) 3 (0, 0)) = _
  congr 2
  apply Array.ext'
  simp only [Array.toList_setIfInBounds]
  apply List.ext_getElem?
  intro i
  rw [List.getElem?_set]
  by_cases hij : j = i
  · subst hij
    by_cases hjn : j < n
    · simp [hjn, put]
    · simp [hjn]
  · rw [if_neg hij]
    simp only [List.getElem?_map]
    by_cases hin : i < n
    · simp [hin, put, Ne.symm hij]
    · simp [hin]
theorem RowF.gr {w w' : World} {g n : Nat} {f : Nat → Int} (h : RowF w g n f) (hb : Below w.heap.size w w') : RowF w' g n f := by
  unfold RowF at *
  rw [hb.block g (lt_of_block h)]
  exact h
theorem RowF.congr {w : World} {g n : Nat} {f f' : Nat → Int} (h : RowF w g n f) (e : ∀ i, i < n → f i = f' i) : RowF w g n f' := by
  unfold RowF at *
  rw [h]
  congr 3
  exact List.map_congr_left fun i hi => by rw [e i (List.mem_range.1 hi)]
/-- Block g holds n numbers, f's. -/
def RowI (w : World) (g n : Nat) (f : Nat → Int) : Prop := w.heap[g]? = some (.cells ((List.range n).map (fun i => Value.int .i64 (f i))).toArray 2 (0, 0))
theorem RowI.cell {w : World} {g n : Nat} {f : Nat → Int} (h : RowI w g n f) (j : Nat) (hj : j < n) : w.cell? ⟨g, j, none⟩ = some (.int .i64 (f j)) := by
  unfold RowI at h
  simp [World.cell?, h, hj]
theorem RowI.free {w : World} {g n : Nat} {f : Nat → Int} (h : RowI w g n f) (j : Nat) : w.frozen? ⟨g, j, none⟩ = false := by
  unfold RowI at h
  simp [World.frozen?, h]
theorem RowI.store {w : World} {g n : Nat} {f : Nat → Int} (h : RowI w g n f) (j : Nat) (x : Int) : RowI (w.setCell ⟨g, j, none⟩ (.int .i64 x)) g n (put f j x) := by
  unfold RowI at *
  have hlt := lt_of_block h
  have h' : w.heap[g] = .cells ((List.range n).map (fun i => Value.int .i64 (f i))).toArray 2 (0, 0) := by simpa [Array.getElem?_eq_getElem hlt] using h
  show (w.heap.modify g _)[g]? = _
  rw [Array.getElem?_eq_getElem (by simpa using hlt), Array.getElem_modify_self, h']
  show some (Obj.cells ((((List.range n).map (fun i => Value.int .i64 (f i))).toArray).setIfInBounds j (.int .i64 x)) 2 (0, 0)) = _
  congr 2
  apply Array.ext'
  simp only [Array.toList_setIfInBounds]
  apply List.ext_getElem?
  intro i
  rw [List.getElem?_set]
  by_cases hij : j = i
  · subst hij
    by_cases hjn : j < n
    · simp [hjn, put]
    · simp [hjn]
  · rw [if_neg hij]
    simp only [List.getElem?_map]
    by_cases hin : i < n
    · simp [hin, put, Ne.symm hij]
    · simp [hin]
theorem RowI.gr {w w' : World} {g n : Nat} {f : Nat → Int} (h : RowI w g n f) (hb : Below w.heap.size w w') : RowI w' g n f := by
  unfold RowI at *
  rw [hb.block g (lt_of_block h)]
  exact h
theorem RowI.congr {w : World} {g n : Nat} {f f' : Nat → Int} (h : RowI w g n f) (e : ∀ i, i < n → f i = f' i) : RowI w g n f' := by
  unfold RowI at *
  rw [h]
  congr 3
  exact List.map_congr_left fun i hi => by rw [e i (List.mem_range.1 hi)]
theorem madeRow (n : Nat) : (madeCells #[Value.int .i64 0] n) = ((List.range n).map (fun _ => Value.int .i64 0)).toArray := by
  apply Array.ext
  · simp [madeCells]
  · intro i h1 h2
    simp [madeCells, Nat.mod_one]
theorem RowI.made (w : World) (n : Nat) : RowI (w.alloc (.cells (madeCells #[.int .i64 0] n) 2)) w.heap.size n (fun _ => 0) := by
  unfold RowI
  rw [madeRow]
  exact heap_alloc_new _ _
theorem RowF.made (w : World) (n : Nat) : RowF (w.alloc (.cells (madeCells #[.int .i64 0] n) 3)) w.heap.size n (fun _ => 0) := by
  unfold RowF
  rw [madeRow]
  exact heap_alloc_new _ _
theorem infoI : (Try.prog.info? 2).map (fun i => (i.zero, i.size, i.bytes)) = some (some (.int .i64 0), 1, 8) := by kernel_rfl
theorem infoN : (Try.prog.info? 3).map (fun i => (i.zero, i.size, i.bytes)) = some (some (.int .i64 0), 1, 8) := by kernel_rfl
theorem makeI (n : Nat) (hn : n ≤ 1000000) (w : World) : (Instr.makeSlice 22 (.int .i64 (n : Int)) (.int .i64 (n : Int))).run Try.prog w = .ok (.slice (some ⟨w.heap.size, 0, none⟩) n n) (w.alloc (.cells (madeCells #[.int .i64 0] n) 2)) :=
  run_make_row' 22 2 (.int .i64 0) 8 (by kernel_rfl) infoI rfl .i64 .i64 n (by omega) (by omega) w
theorem makeN (n : Nat) (hn : n ≤ 1000000) (w : World) : (Instr.makeSlice 63 (.int .i64 (n : Int)) (.int .i64 (n : Int))).run Try.prog w = .ok (.slice (some ⟨w.heap.size, 0, none⟩) n n) (w.alloc (.cells (madeCells #[.int .i64 0] n) 3)) :=
  run_make_row' 63 3 (.int .i64 0) 8 (by kernel_rfl) infoN rfl .i64 .i64 n (by omega) (by omega) w
theorem RowI.ints {w : World} {g n : Nat} {f : Nat → Int} (h : RowI w g n f) : IntsAt w (some ⟨g, 0, none⟩) n f := fun _ => ⟨g, 0, rfl, lt_of_block h, fun i hi => by rw [Nat.zero_add]; exact h.cell i hi⟩
theorem RowI.other {w : World} {g n b o : Nat} {f : Nat → Int} {u : Value} (h : RowI w g n f) (hne : g ≠ b) : RowI (w.setCell ⟨b, o, none⟩ u) g n f := by
  unfold RowI at *
  rw [Below.heap_setCell _ _ _ _ hne]
  exact h
theorem RowF.other {w : World} {g n b o : Nat} {f : Nat → Int} {u : Value} (h : RowF w g n f) (hne : g ≠ b) : RowF (w.setCell ⟨b, o, none⟩ u) g n f := by
  unfold RowF at *
  rw [Below.heap_setCell _ _ _ _ hne]
  exact h
end Go.Proofs.Ytncbieaobadekaa
