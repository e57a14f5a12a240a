/- disk.operate, with each of its three closures (made by gen_dop.py). -/
import Derived.Test.YtbpaongnehgodaaDoorDskDo
namespace Go.Proofs.YtbpaongnehgodaaDoor
open Go.ChangeShapes Go.WideShapes Go.ChangeAt Go.RowKit
theorem four_cells {w : World} {g : Nat} {a b c d : Value} {ty : TypeId} (h : w.heap[g]? = some (.cells #[a, b, c, d] ty (0, 0))) (x y z u : Value) :
    (((((w.setCell ⟨g, 0, none⟩ x).setCell ⟨g, 1, none⟩ y).setCell ⟨g, 2, none⟩ z).setCell ⟨g, 3, none⟩ u).cell? ⟨g, 0, none⟩ = some x ∧ ((((w.setCell ⟨g, 0, none⟩ x).setCell ⟨g, 1, none⟩ y).setCell ⟨g, 2, none⟩ z).setCell ⟨g, 3, none⟩ u).cell? ⟨g, 1, none⟩ = some y) ∧
    ((((w.setCell ⟨g, 0, none⟩ x).setCell ⟨g, 1, none⟩ y).setCell ⟨g, 2, none⟩ z).setCell ⟨g, 3, none⟩ u).cell? ⟨g, 2, none⟩ = some z ∧ ((((w.setCell ⟨g, 0, none⟩ x).setCell ⟨g, 1, none⟩ y).setCell ⟨g, 2, none⟩ z).setCell ⟨g, 3, none⟩ u).cell? ⟨g, 3, none⟩ = some u := by
  have h1 := db_set (i := 3) (v := u) (db_set (i := 2) (v := z) (db_set (i := 1) (v := y) (db_set (i := 0) (v := x) h rfl) rfl) rfl) rfl
  simp [World.cell?, h1]
theorem four_free {w : World} {g : Nat} {a b c d : Value} {ty : TypeId} (h : w.heap[g]? = some (.cells #[a, b, c, d] ty (0, 0))) (i : Nat) : w.frozen? ⟨g, i, none⟩ = false := by simp [World.frozen?, h]
theorem four_read {w : World} {g : Nat} {a b c d : Value} {ty : TypeId} (h : w.heap[g]? = some (.cells #[a, b, c, d] ty (0, 0))) :
    w.cell? ⟨g, 0, none⟩ = some a ∧ w.cell? ⟨g, 1, none⟩ = some b ∧ w.cell? ⟨g, 2, none⟩ = some c ∧ w.cell? ⟨g, 3, none⟩ = some d := by simp [World.cell?, h]
theorem below_four {B g : Nat} {w w' : World} (h : Below B w w') (hg : B ≤ g) (x y z u : Value) : Below B w ((((w'.setCell ⟨g, 0, none⟩ x).setCell ⟨g, 1, none⟩ y).setCell ⟨g, 2, none⟩ z).setCell ⟨g, 3, none⟩ u) :=
  (((h.setCell (by exact hg) _).setCell (by exact hg) _).setCell (by exact hg) _).setCell (by exact hg) _
theorem below_grown {B g : Nat} {w w' w'' : World} (h : Below B w w') (hg : B ≤ g) (hB : B ≤ w'.heap.size) (k : w'.grownBy w'' (some g)) : Below B w w'' := h.trans ⟨k.os, k.tape, k.output, k.size, fun i hi => k.block i (by omega) (fun e => by injection e with e; omega)⟩
/-- What an operation answers. -/
def opV (s t : ByteArray) (f : Int) (d : Bool) (hin : Int) (s0 t0 s1 t1 : ByteArray) : Value :=
  if f < -1 then .tuple #[.agg #[.string s, .string t, .int .i64 f, .bool d], .int .i64 1]
  else if d = true then .tuple #[.agg #[.string s, .string t, .int .i64 f, .bool d], .int .i64 16]
  else if hin ≠ 0 then .tuple #[.agg #[.string s, .string t, .int .i64 f, .bool d], .int .i64 hin]
  else if f = 0 then .tuple #[.agg #[.string s0, .string t0, .int .i64 0, .bool true], .int .i64 16]
  else .tuple #[.agg #[.string s1, .string t1, .int .i64 (if 0 < f then f - 1 else f), .bool false], .int .i64 0]
theorem below_box' {w w1 : World} {o o' : Obj} (h : Below ((w.alloc o).alloc o').heap.size ((w.alloc o).alloc o') w1) : Below (w.alloc o).heap.size (w.alloc o) w1 := below_box h
theorem box_two {w w1 : World} {cs cs' : Array Value} {ty ty' : TypeId} (h : Below ((w.alloc (.cells cs ty)).alloc (.cells cs' ty')).heap.size ((w.alloc (.cells cs ty)).alloc (.cells cs' ty')) w1) :
    w1.heap[w.heap.size]? = some (.cells cs ty (0, 0)) ∧ w1.heap[w.heap.size + 1]? = some (.cells cs' ty' (0, 0)) ∧ Below w.heap.size w w1 := by
  refine ⟨box_kept (below_box' h), ?_, below_box (below_box' h)⟩
  have := box_kept h
  rwa [World.size_alloc] at this
theorem wrap_i64 {n : Int} (h : -9223372036854775808 ≤ n) (h2 : n ≤ 9223372036854775807) : IntKind.i64.wrap n = n := by
  unfold IntKind.wrap
  simp [IntKind.signed, IntKind.bits]
  omega
end Go.Proofs.YtbpaongnehgodaaDoor
