/- append of one row of two cells, at a step of a region that draws its order. -/
import Derived.Test.YthmbpoldjddheaaTabActs
import Derived.Deep.AppendLies
import Derived.Deep.RegionLaw
namespace Go.Proofs.Ythmbpoldjddheaa
open Go.ChangeShapes Go.WideShapes Go.ChangeAt Go.RowKit
theorem step_append_row {P : Program} (w : World) {ops : Array Oper} {o : Oper} {a : Act} {K : Act → World → Prop} {Q : Exit → Act → World → Prop} {E : Prop} (hgd : o.guard = none) (s x : Operand) (t : TypeId)
    (ho : o.op = .call { callee := .builtin .append, args := #[s, x], argTypes := #[t, t] })
    (base : Nat) (e : TypeId) (i : TypeInfo) (z : Value) (bytes : Nat) (ht : P.underlying t = some (.slice e)) (hi : P.info? e = some i) (hz : i.zero = some z)
    (hsize : i.size = 2) (hby : i.bytes = bytes) (hzs : z.cells.size = 2)
    (v : Value) (n : Nat) (xs : List Value) (hs : a.eval s = v) (hown : w.ownsRow base e 2 v n xs)
    (b c : Nat) (u0 u1 : Value) (hx : a.eval x = .slice (some ⟨b, 0, none⟩) 1 c) (hc : w.cell? ⟨b, 0, none⟩ = some u0 ∧ w.cell? ⟨b, 1, none⟩ = some u1) (h0 : u0.oneCell' = true ∧ u1.oneCell' = true)
    (h63 : n + 1 ≤ maxLen ∧ (n + 1) * bytes ≤ 140737488355328 ∧ base ≤ w.heap.size)
    (h : ∀ g cap w', Hid (w'.ownsRow base e 2 (.slice (some ⟨g, 0, none⟩) (n + 1) cap) (n + 1) (xs ++ [u0, u1])) → Hid (w.grownBy w' v.ownBlock) → Hid (v.ownBlock = some g ∨ g = w.heap.size) → K (a.put o.dst (.slice (some ⟨g, 0, none⟩) (n + 1) cap)) w') :
    if Region.wanted o (yielded ops a.tmps) = true then Oper.wp P o a w K Q else E := by
  refine step_append_lies w hgd s x t ho base e i z 2 bytes ht hi hz hsize hby hzs (by decide) v n xs hs hown ⟨b, 0, none⟩ 1 c [u0, u1] hx rfl ?_ ?_ (by decide) h63.1 h63.2.1 h63.2.2 w.heap.size rfl fun g cap w' h1 h2 h3 _ => h g cap w' h1 h2 h3
  · intro j u' hj
    have hadd : ∀ j, (⟨b, 0, none⟩ : Addr).add j = ⟨b, j, none⟩ := fun j => by unfold Addr.add; split <;> simp_all
    rw [hadd]
    match j, hj with
    | 0, hj => simp at hj; subst hj; exact hc.1
    | 1, hj => simp at hj; subst hj; exact hc.2
  · intro u' hu
    rcases List.mem_cons.1 hu with rfl | hu
    · exact h0.1
    · obtain rfl : u' = u1 := by simpa using hu
      exact h0.2
theorem append_qat (w w7 : World) (g room j c6 g7 c7 : Nat) (ao6 : Option Addr) (b : Nat → Int) (u : Nat → ByteArray) (y : Int) (z : ByteArray) (h : QAt w g g room j b u (.slice ao6 j c6)) (hy : b j = y) (hz : u j = z)
    (hb : w7.heap[g]? = some (.cells #[.int .i64 (room : Nat), .slice ao6 j c6] 29 (0, 0)))
    (ho : w7.ownsRow g 37 2 (.slice (some ⟨g7, 0, none⟩) (j + 1) c7) (j + 1) (rowCells b u j ++ [.int .i64 y, .string z]))
    (hg : (w.alloc (.cells #[.int .i64 y, .string z] 37)).drew.grownBy w7 (Value.slice ao6 j c6).ownBlock)
    (ha : (Value.slice ao6 j c6).ownBlock = some g7 ∨ g7 = (w.alloc (.cells #[.int .i64 y, .string z] 37)).drew.heap.size) :
    QAt (w7.setCell ⟨g, 1, none⟩ (.slice (some ⟨g7, 0, none⟩) (j + 1) c7)) g g room (j + 1) b u (.slice (some ⟨g7, 0, none⟩) (j + 1) c7) ∧ Below g w (w7.setCell ⟨g, 1, none⟩ (.slice (some ⟨g7, 0, none⟩) (j + 1) c7)) := by
  subst hy hz
  have hlt := lt_of_block h.here
  have hsz : (w.alloc (.cells #[.int .i64 (b j), .string (u j)] 37)).drew.heap.size = w.heap.size + 1 := World.size_alloc _ _
  have hne : (Value.slice (some ⟨g7, 0, none⟩) (j + 1) c7).ownBlock ≠ some g := fun e => by
    have e' : g7 = g := by simpa [Value.ownBlock] using e
    subst e'
    rcases ha with h1 | h1
    · exact h.apart h1
    · omega
  refine ⟨⟨Nat.le_refl _, ?_, World.ownsRow.kept (show OwnsR w7 g _ _ (j + 1) b u from ho) (setCell_grown w7 ⟨g, 1, none⟩ _) (Or.inr hne), hne⟩, ?_⟩
  · simp only [World.setCell, Array.getElem?_modify]
    rw [if_pos trivial, hb]
    rfl
  · have e1 : Kept (fun k => k = g ∨ (Value.slice ao6 j c6).ownBlock = some k) w (w.alloc (.cells #[.int .i64 (b j), .string (u j)] 37)).drew := Kept.of_below ((Below.refl _ _).alloc (Nat.le_refl _) _).drew
    refine ((e1.trans (Kept.of_grown hg fun k hk => Or.inr hk)).trans (Kept.of_grown (setCell_grown w7 ⟨g, 1, none⟩ _) fun k hk => Or.inl (by injection hk with hk; exact hk.symm))).below (by omega) ?_
    rintro k hk (rfl | hs)
    · omega
    · have := (World.ownsRow.lt h.rows k hs).1
      omega
end Go.Proofs.Ythmbpoldjddheaa
