/- A slice that a call grew itself: n values of one cell. -/
import Derived.Test.YtbpaongnehgodaaDoorFrameRef
import Derived.OwnWalk
import Derived.Laws.OwnMore
namespace Go.Proofs.YtbpaongnehgodaaDoor
open Go.ChangeShapes Go.WideShapes Go.ChangeAt Go.RowKit
def OwnsV (w : World) (B T : Nat) (v : Value) (n : Nat) (f : Nat → Value) : Prop := w.ownsRow B T 1 v n ((List.range n).map f)
theorem OwnsV.view {w : World} {B T n : Nat} {v : Value} {f : Nat → Value} (h : OwnsV w B T v n f) : ∃ ao cap, v = .slice ao n cap ∧ (0 < n → ∃ b, ao = some ⟨b, 0, none⟩ ∧ B ≤ b ∧ b < w.heap.size ∧ ∀ i, i < n → w.cell? ⟨b, i, none⟩ = some (f i)) := by
  rcases h.2 with ⟨rfl, rfl⟩ | ⟨g, cap, cur, rfl, hB, hh, hr⟩
  · exact ⟨none, 0, rfl, fun hn => absurd hn (Nat.lt_irrefl 0)⟩
  · refine ⟨some ⟨g, 0, none⟩, cap, rfl, fun _ => ⟨g, rfl, hB, lt_of_block hh, fun i hi => ?_⟩⟩
    rw [World.ownsRow.cellAt h i (by omega)]
    simp [hi]
theorem OwnsV.nil (w : World) (B T : Nat) (f : Nat → Value) : OwnsV w B T (.slice none 0 0) 0 f := World.ownsRow_nil _ _ _ _
theorem OwnsV.next {w' : World} {B T n : Nat} {v' : Value} {f : Nat → Value} (h : w'.ownsRow B T 1 v' (n + 1) ((List.range n).map f ++ [f n])) : OwnsV w' B T v' (n + 1) f := by
  unfold OwnsV
  rw [List.range_succ, List.map_append]
  exact h
theorem OwnsV.drewN {w : World} {B T n : Nat} {v : Value} {f : Nat → Value} (h : OwnsV w B T v n f) (q : Nat) : OwnsV (w.drewN q) B T v n f := h
theorem OwnsV.congr {w : World} {B T n : Nat} {v : Value} {f f' : Nat → Value} (h : OwnsV w B T v n f) (e : ∀ i, i < n → f i = f' i) : OwnsV w B T v n f' := by
  unfold OwnsV at *
  rw [← List.map_congr_left (f := f) fun i hi => e i (List.mem_range.1 hi)]
  exact h
end Go.Proofs.YtbpaongnehgodaaDoor
