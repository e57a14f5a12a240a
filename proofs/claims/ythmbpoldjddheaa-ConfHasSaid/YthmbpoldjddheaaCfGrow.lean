/- A field of a config that grows; near; plain configs. -/
import Derived.Test.YthmbpoldjddheaaCfRepM
import Derived.Test.YthmbpoldjddheaaCfRepS
import Derived.Test.YthmbpoldjddheaaCfChecks
namespace Go.Proofs.Ythmbpoldjddheaa
open Go.ChangeShapes Go.WideShapes Go.ChangeAt Go.RowKit
/-- Of the world w3 all is as it was but the config at X; its field is a row of one's own. -/
structure Lp (w3 wr : World) (X : Nat) (f : Value → Array Value) (T size n : Nat) (xs : List Value) (v : Value) : Prop where
  grown : w3.grownBy wr (some X)
  here : wr.heap[X]? = some (.cells (f v) 67 (0, 0))
  row : wr.ownsRow w3.heap.size T size v n xs
theorem Lp.next {w3 wr w2 : World} {X T size n m idx : Nat} {f : Value → Array Value} {xs news : List Value} {v v' : Value} {o : Obj} (h : Lp w3 wr X f T size n xs v) (hX : X < w3.heap.size) (hf : (f v).set! idx v' = f v')
    (hown : w2.ownsRow w3.heap.size T size v' m (xs ++ news)) (hgrow : (wr.alloc o).grownBy w2 v.ownBlock) : Lp w3 (w2.setCell ⟨X, idx, none⟩ v') X f T size m (xs ++ news) v' := by
  have hsz := h.grown.size
  have hv : ∀ k, v.ownBlock = some k → w3.heap.size ≤ k := fun k hk => (World.ownsRow.lt h.row k hk).1
  have hx2 : w2.heap[X]? = some (.cells (f v) 67 (0, 0)) := (hgrow.block X (by simp; omega) (fun e => by have := hv X e.symm; omega)).trans ((Below.heap_alloc _ _ _ (by omega)).trans h.here)
  have hne : v'.ownBlock ≠ some X := fun e => by have := (World.ownsRow.lt hown X e).1; omega
  refine ⟨⟨?_, ?_, ?_, ?_, ?_⟩, ?_, ?_⟩
  · exact hgrow.os.trans h.grown.os
  · exact hgrow.tape.trans h.grown.tape
  · exact hgrow.output.trans h.grown.output
  · have := hgrow.size
    simp [World.setCell] at this ⊢
    omega
  · intro k hk hne
    rw [Below.heap_setCell _ _ _ _ (fun e => hne (by rw [e])), hgrow.block k (by simp; omega) (fun e => by have := hv k e.symm; omega), Below.heap_alloc _ _ _ (by omega)]
    exact h.grown.block k hk hne
  · rw [← hf]
    simp only [World.setCell, Array.getElem?_modify]
    rw [if_pos trivial, hx2]
    rfl
  · exact World.ownsRow.kept hown (⟨rfl, rfl, rfl, by simp [World.setCell], fun k _ hne => Below.heap_setCell _ _ _ _ (fun e => hne (by rw [e]))⟩ : w2.grownBy (w2.setCell ⟨X, idx, none⟩ v') (some X)) (Or.inr hne)
/-- The number from l to m that is nearest. -/
def nr (n : Int) (l m : Nat) : Nat := if n < l then l else if (m : Int) < n then m else n.toNat
theorem nr_in (n : Int) (l m : Nat) (h : l ≤ m) : l ≤ nr n l m ∧ nr n l m ≤ m := by
  unfold nr
  split
  · omega
  · split <;> omega
theorem near10_any (n : Int) (l m : Nat) (h : l ≤ m) (w : World) : Calls Try.prog 71 #[.int .i64 n, .int .i64 (l : Nat), .int .i64 (m : Nat)] w (RetS (.int .i64 (nr n l m : Nat)) w) := by
  unfold nr
  have h2 : (l : Int) ≤ (m : Int) := by omega
  by_cases h3 : n < (l : Int)
  · rw [if_pos h3]
    have g1 : ¬ (l : Int) ≤ n := by omega
    have g2 : ¬ (m : Int) < (l : Int) := by omega
    go_enter Try.func71, Try.ntmps71
    go_wp2_with fail
    go_ret
    exact ⟨by first | rfl | simp, rfl⟩
  · rw [if_neg h3]
    by_cases h4 : (m : Int) < n
    · rw [if_pos h4]
      have g1 : ¬ n ≤ (m : Int) := by omega
      go_enter Try.func71, Try.ntmps71
      go_wp2_with fail
      go_ret
      exact ⟨by first | rfl | simp, rfl⟩
    · rw [if_neg h4]
      have g1 : n ≤ (m : Int) := by omega
      have g2 : ((n.toNat : Nat) : Int) = n := by omega
      rw [g2]
      go_enter Try.func71, Try.ntmps71
      go_wp2_with fail
      go_ret
      exact ⟨by first | rfl | simp, rfl⟩
/-- A plain config, wherever its slices lie. -/
def plainC (am au ac : Option Addr) (nm cm ns cs nc cc : Nat) : CF :=
  { am := am, au := au, ac := ac, nm := nm, cm := cm, ns := ns, cs := cs, nc := nc, cc := cc, li := 500, ca := 200, le := 1, tr := 64, bi := 32, m1 := fun _ => 1000, m2 := fun _ => 100, s1 := fun _ => 10, s2 := fun _ => 12, p := fun i => 10 * (i : Int) + 4, q := fun i => 10 * (i : Int) + 7, r := fun i => 10 * (i : Int) + 9, s := fun i => 10 * (i : Int) + 10 }
/-- Rows of four, as values. -/
def cyL : Nat → List Value
  | 0 => []
  | i + 1 => cyL i ++ [.int .i64 (10 * (i : Int) + 4), .int .i64 (10 * (i : Int) + 7), .int .i64 (10 * (i : Int) + 9), .int .i64 (10 * (i : Int) + 10)]
theorem cyL_length : ∀ n, (cyL n).length = n * 4
  | 0 => rfl
  | n + 1 => by rw [cyL, List.length_append, cyL_length n]; simp; omega
theorem cyL_at : ∀ n i, i < n → (cyL n)[i * 4]? = some (.int .i64 (10 * (i : Int) + 4)) ∧ (cyL n)[i * 4 + 1]? = some (.int .i64 (10 * (i : Int) + 7)) ∧ (cyL n)[i * 4 + 2]? = some (.int .i64 (10 * (i : Int) + 9)) ∧ (cyL n)[i * 4 + 3]? = some (.int .i64 (10 * (i : Int) + 10))
  | 0, i, h => by omega
  | n + 1, i, h => by
    rw [cyL]
    by_cases hi : i < n
    · obtain ⟨h0, h1, h2, h3⟩ := cyL_at n i hi
      have hl := cyL_length n
      rw [List.getElem?_append_left (by omega), List.getElem?_append_left (by omega), List.getElem?_append_left (by omega), List.getElem?_append_left (by omega)]
      exact ⟨h0, h1, h2, h3⟩
    · obtain rfl : i = n := by omega
      have hl := cyL_length i
      rw [List.getElem?_append_right (by omega), List.getElem?_append_right (by omega), List.getElem?_append_right (by omega), List.getElem?_append_right (by omega), hl]
      rw [Nat.sub_self, Nat.add_sub_cancel_left, Nat.add_sub_cancel_left, Nat.add_sub_cancel_left]
      exact ⟨rfl, rfl, rfl, rfl⟩
theorem row_four {w : World} {B T : Nat} {ao : Option Addr} {cap n : Nat} (h : w.ownsRow B T 4 (.slice ao n cap) n (cyL n)) : Four w ao n (fun i => 10 * (i : Int) + 4) (fun i => 10 * (i : Int) + 7) (fun i => 10 * (i : Int) + 9) (fun i => 10 * (i : Int) + 10) := fun hn => by
  obtain ⟨ao', cap', e, hv⟩ := row_view h
  injection e with e1 e2 e3
  subst e1
  obtain ⟨g, rfl, hg⟩ := hv hn
  refine ⟨g, 0, rfl, hg, fun i hi => ?_⟩
  obtain ⟨h0, h1, h2, h3⟩ := cyL_at n i hi
  rw [Nat.zero_add, World.ownsRow.cellAt h _ (by omega), World.ownsRow.cellAt h _ (by omega), World.ownsRow.cellAt h _ (by omega), World.ownsRow.cellAt h _ (by omega)]
  exact ⟨h0, h1, h2, h3⟩
theorem row_two {w : World} {B T : Nat} {ao : Option Addr} {cap n : Nat} {a b : Int} (h : w.ownsRow B T 2 (.slice ao n cap) n (prs (.int .i64 a) (.int .i64 b) n)) : Two w ao n (fun _ => a) (fun _ => b) := fun hn => by
  obtain ⟨ao', cap', e, hv⟩ := row_view h
  injection e with e1 e2 e3
  subst e1
  obtain ⟨g, rfl, hg⟩ := hv hn
  refine ⟨g, 0, rfl, hg, fun i hi => ?_⟩
  obtain ⟨h0, h1⟩ := prs_at (.int .i64 a) (.int .i64 b) n i hi
  rw [Nat.zero_add, World.ownsRow.cellAt h _ (by omega), World.ownsRow.cellAt h _ (by omega)]
  exact ⟨h0, h1⟩
theorem block_two {w : World} {g n T : Nat} {a b : Int} (h : w.heap[g]? = some (.cells (prs (.int .i64 a) (.int .i64 b) n).toArray T (0, 0))) : Two w (some ⟨g, 0, none⟩) n (fun _ => a) (fun _ => b) := fun _ =>
  ⟨g, 0, rfl, lt_of_block h, fun i hi => by
    obtain ⟨h0, h1⟩ := prs_at (.int .i64 a) (.int .i64 b) n i hi
    rw [Nat.zero_add]
    simp only [World.cell?, h]
    exact ⟨by simpa using h0, by simpa using h1⟩⟩
theorem set_heap {w : World} {g i : Nat} {v : Value} {cs cs' : Array Value} {ty : TypeId} (h : w.heap[g]? = some (.cells cs ty (0, 0))) (e : cs.set! i v = cs') : (w.setCell ⟨g, i, none⟩ v).heap[g]? = some (.cells cs' ty (0, 0)) := by
  subst e
  simp only [World.setCell, Array.getElem?_modify]
  rw [if_pos trivial, h]
  rfl
theorem eight_set {w : World} {g : Nat} {a0 a1 a2 a3 a4 a5 a6 a7 : Value} {ty : TypeId} (h : w.heap[g]? = some (.cells #[a0, a1, a2, a3, a4, a5, a6, a7] ty (0, 0))) (v0 v1 v2 v3 v4 v5 v6 v7 : Value) :
    ((((((((w.setCell ⟨g, 0, none⟩ v0).setCell ⟨g, 1, none⟩ v1).setCell ⟨g, 2, none⟩ v2).setCell ⟨g, 3, none⟩ v3).setCell ⟨g, 4, none⟩ v4).setCell ⟨g, 5, none⟩ v5).setCell ⟨g, 6, none⟩ v6).setCell ⟨g, 7, none⟩ v7).heap[g]? = some (.cells #[v0, v1, v2, v3, v4, v5, v6, v7] ty (0, 0)) := by
  have h0 := set_heap (i := 0) (v := v0) (cs' := #[v0, a1, a2, a3, a4, a5, a6, a7]) h rfl
  have h1 := set_heap (i := 1) (v := v1) (cs' := #[v0, v1, a2, a3, a4, a5, a6, a7]) h0 rfl
  have h2 := set_heap (i := 2) (v := v2) (cs' := #[v0, v1, v2, a3, a4, a5, a6, a7]) h1 rfl
  have h3 := set_heap (i := 3) (v := v3) (cs' := #[v0, v1, v2, v3, a4, a5, a6, a7]) h2 rfl
  have h4 := set_heap (i := 4) (v := v4) (cs' := #[v0, v1, v2, v3, v4, a5, a6, a7]) h3 rfl
  have h5 := set_heap (i := 5) (v := v5) (cs' := #[v0, v1, v2, v3, v4, v5, a6, a7]) h4 rfl
  have h6 := set_heap (i := 6) (v := v6) (cs' := #[v0, v1, v2, v3, v4, v5, v6, a7]) h5 rfl
  have h7 := set_heap (i := 7) (v := v7) (cs' := #[v0, v1, v2, v3, v4, v5, v6, v7]) h6 rfl
  exact h7
theorem eight_read {w : World} {g : Nat} {v0 v1 v2 v3 v4 v5 v6 v7 : Value} {ty : TypeId} (h : w.heap[g]? = some (.cells #[v0, v1, v2, v3, v4, v5, v6, v7] ty (0, 0))) :
    w.cell? ⟨g, 0, none⟩ = some v0 ∧ w.cell? ⟨g, 1, none⟩ = some v1 ∧ w.cell? ⟨g, 2, none⟩ = some v2 ∧ w.cell? ⟨g, 3, none⟩ = some v3 ∧ w.cell? ⟨g, 4, none⟩ = some v4 ∧ w.cell? ⟨g, 5, none⟩ = some v5 ∧ w.cell? ⟨g, 6, none⟩ = some v6 ∧ w.cell? ⟨g, 7, none⟩ = some v7 := by simp [World.cell?, h]
theorem eight_free {w : World} {g : Nat} {cs : Array Value} {ty : TypeId} (h : w.heap[g]? = some (.cells cs ty (0, 0))) (i : Nat) : w.frozen? ⟨g, i, none⟩ = false := by simp [World.frozen?, h]
theorem set_gr (w : World) (p : Addr) (u : Value) : w.grownBy (w.setCell p u) (some p.block) := ⟨rfl, rfl, rfl, by simp [World.setCell], fun k _ hne => Below.heap_setCell _ _ _ _ (fun e => hne (by rw [e]))⟩
theorem gr_tr {u v w : World} {r : Option Nat} (h : u.grownBy v r) (k : v.grownBy w r) : u.grownBy w r := ⟨k.os.trans h.os, k.tape.trans h.tape, k.output.trans h.output, Nat.le_trans h.size k.size, fun i hi hs => (k.block i (Nat.lt_of_lt_of_le hi h.size) hs).trans (h.block i hi hs)⟩
theorem eight_grown (w : World) (g : Nat) (v0 v1 v2 v3 v4 v5 v6 v7 : Value) : w.grownBy ((((((((w.setCell ⟨g, 0, none⟩ v0).setCell ⟨g, 1, none⟩ v1).setCell ⟨g, 2, none⟩ v2).setCell ⟨g, 3, none⟩ v3).setCell ⟨g, 4, none⟩ v4).setCell ⟨g, 5, none⟩ v5).setCell ⟨g, 6, none⟩ v6).setCell ⟨g, 7, none⟩ v7) (some g) :=
  gr_tr (gr_tr (gr_tr (gr_tr (gr_tr (gr_tr (gr_tr (set_gr w ⟨g, 0, none⟩ v0) (set_gr _ ⟨g, 1, none⟩ v1)) (set_gr _ ⟨g, 2, none⟩ v2)) (set_gr _ ⟨g, 3, none⟩ v3)) (set_gr _ ⟨g, 4, none⟩ v4)) (set_gr _ ⟨g, 5, none⟩ v5)) (set_gr _ ⟨g, 6, none⟩ v6)) (set_gr _ ⟨g, 7, none⟩ v7)
theorem grown_bel {B g : Nat} {w w' w'' : World} (h : Below B w w') (hg : B ≤ g) (hB : B ≤ w'.heap.size) (k : w'.grownBy w'' (some g)) : Below B w w'' := h.trans ⟨k.os, k.tape, k.output, k.size, fun i hi => k.block i (by omega) (fun e => by injection e with e; omega)⟩
end Go.Proofs.Ythmbpoldjddheaa
