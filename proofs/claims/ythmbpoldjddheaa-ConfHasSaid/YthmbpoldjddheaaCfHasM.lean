/- Rows whose cells are integers, stored into one by one. -/
import Derived.Test.YthmbpoldjddheaaCfCopyC
namespace Go.Proofs.Ythmbpoldjddheaa
open Go.ChangeShapes Go.WideShapes Go.ChangeAt Go.RowKit
/-- Each is an integer. -/
def Nums (xs : List Value) : Prop := ∀ u ∈ xs, ∃ k : Int, u = .int .i64 k
theorem twL_nums (a b : Nat → Int) : ∀ n, Nums (twL a b n)
  | 0, _, h => by cases h
  | n + 1, u, h => by
    rw [twL] at h
    rcases List.mem_append.1 h with h | h
    · exact twL_nums a b n u h
    · simp at h
      rcases h with rfl | rfl <;> exact ⟨_, rfl⟩
theorem frL_nums (a b c d : Nat → Int) : ∀ n, Nums (frL a b c d n)
  | 0, _, h => by cases h
  | n + 1, u, h => by
    rw [frL] at h
    rcases List.mem_append.1 h with h | h
    · exact frL_nums a b c d n u h
    · simp at h
      rcases h with rfl | rfl | rfl | rfl <;> exact ⟨_, rfl⟩
theorem Nums.set {xs : List Value} (h : Nums xs) (j : Nat) (k : Int) : Nums (xs.set j (.int .i64 k)) := fun u hu => by
  rcases List.mem_or_eq_of_mem_set hu with h1 | h1
  · exact h u h1
  · exact ⟨k, h1⟩
/-- A row of integers of one's own: a cell of it, and what a store of an integer leaves. -/
theorem row_num {w : World} {B T size n : Nat} {v : Value} {xs : List Value} (h : w.ownsRow B T size v n xs) (hx : Nums xs) (hn : 0 < n) (j : Nat) (hj : j < n * size) :
    ∃ g cap k, v = .slice (some ⟨g, 0, none⟩) n cap ∧ B ≤ g ∧ w.cell? ⟨g, j, none⟩ = some (.int .i64 k) ∧ w.frozen? ⟨g, j, none⟩ = false ∧
      ∀ k' : Int, (w.setCell ⟨g, j, none⟩ (.int .i64 k')).ownsRow B T size v n (xs.set j (.int .i64 k')) ∧ w.grownBy (w.setCell ⟨g, j, none⟩ (.int .i64 k')) v.ownBlock := by
  have hl := h.1
  rcases h.2 with ⟨_, h0⟩ | ⟨g, cap, cur, rfl, hB, hh, _⟩
  · omega
  · have hc := World.ownsRow.cellAt h j (by omega)
    obtain ⟨u, hu⟩ : ∃ u, xs[j]? = some u := ⟨xs[j]'(by omega), List.getElem?_eq_getElem (by omega)⟩
    obtain ⟨k, hk⟩ := hx u (List.mem_of_getElem? hu)
    rw [hu, hk] at hc
    refine ⟨g, cap, k, rfl, hB, hc, by simp [World.frozen?, hh], fun k' => ?_⟩
    exact World.ownsRow.stored h j (.int .i64 k')
theorem own_type {w : World} {B T k n g : Nat} {v : Value} {xs : List Value} (h : w.ownsRow B T k v n xs) (hv : v.ownBlock = some g) : ∃ cur, w.heap[g]? = some (.cells cur T (0, 0)) := by
  rcases h.2 with ⟨rfl, _⟩ | ⟨g', cap', cur', rfl, _, h2, _⟩
  · cases hv
  · obtain rfl : g' = g := Option.some.inj hv
    exact ⟨cur', h2⟩
theorem own_apart {w : World} {B B' T T' k k' n n' : Nat} {v v' : Value} {xs xs' : List Value} (h : w.ownsRow B T k v n xs) (h' : w.ownsRow B' T' k' v' n' xs') (hT : T ≠ T') : ∀ g, v.ownBlock = some g → v'.ownBlock ≠ some g := fun g e e' => by
  obtain ⟨c, hc⟩ := own_type h e
  obtain ⟨c', hc'⟩ := own_type h' e'
  rw [hc] at hc'
  injection hc' with hc'
  injection hc' with h1 h2
  exact hT h2
theorem row_keep {w w' : World} {B T size n : Nat} {v : Value} {xs : List Value} {r : Option Nat} (h : w.ownsRow B T size v n xs) (hg : w.grownBy w' r) (hne : ∀ g, r = some g → v.ownBlock ≠ some g) : w'.ownsRow B T size v n xs := by
  cases hv : v.ownBlock with
  | none => exact World.ownsRow.kept h hg (Or.inl hv)
  | some g => exact World.ownsRow.kept h hg (Or.inr (fun e => hne g (by rw [← e]; exact hv) hv))
theorem grown_far {w w' : World} {v : Value} {lo hi : Nat} (hg : w.grownBy w' v.ownBlock) (hl : ∀ k, v.ownBlock = some k → lo ≤ k ∧ k < hi) (b : Nat) (hb : b < w.heap.size) (h : b < lo ∨ hi ≤ b) : w'.heap[b]? = w.heap[b]? := hg.block b hb (fun e => by have := hl b e.symm; omega)
theorem grown_lo {w w' : World} {v : Value} {lo hi : Nat} (hg : w.grownBy w' v.ownBlock) (hl : ∀ k, v.ownBlock = some k → lo ≤ k ∧ k < hi) (hlo : lo ≤ w.heap.size) : Below lo w w' := ⟨hg.os, hg.tape, hg.output, hg.size, fun k hk => grown_far hg hl k (by omega) (Or.inl hk)⟩
theorem row_far {w w' : World} {v v' : Value} {lo hi B T size n : Nat} {xs : List Value} (h : w.ownsRow B T size v' n xs) (hg : w.grownBy w' v.ownBlock) (hl : ∀ k, v.ownBlock = some k → lo ≤ k ∧ k < hi) (hB : hi ≤ B) : w'.ownsRow B T size v' n xs := row_keep h hg (fun g e e' => by have := hl g e; have := (World.ownsRow.lt h g e').1; omega)
end Go.Proofs.Ythmbpoldjddheaa
