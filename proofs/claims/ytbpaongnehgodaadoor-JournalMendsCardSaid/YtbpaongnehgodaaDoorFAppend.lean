/- append of one value onto a slice of the call's own: where the new row lies; stores into such a slice. -/
import Derived.Test.YtbpaongnehgodaaDoorFOwns
import Derived.ArgAppend
import Derived.OneCell
namespace Go.Proofs.YtbpaongnehgodaaDoor
open Go.ChangeShapes Go.WideShapes Go.ChangeAt Go.RowKit
theorem grown_wide {w w' : World} {row : Option Nat} (h : w.grownBy w' none) : w.grownBy w' row := ⟨h.os, h.tape, h.output, h.size, fun k hk _ => h.block k hk (by simp)⟩
/-- The slice value lies where it lay, or in a new block. -/
def Near (w : World) (v v' : Value) : Prop := ∀ g, v'.ownBlock = some g → v.ownBlock = some g ∨ w.heap.size ≤ g
theorem wpList_append_near {P : Program} (w : World) {ops : Array Oper} {rest : List Oper} {o : Oper} {a : Act} {Q : Exit → Act → World → Prop} (hgd : o.guard = none) (s x : Operand) (t : TypeId)
    (ho : o.op = .call { callee := .builtin .append, args := #[s, x], argTypes := #[t, t] })
    (base : Nat) (e : TypeId) (i : TypeInfo) (z : Value) (bytes : Nat) (ht : P.underlying t = some (.slice e)) (hi : P.info? e = some i) (hz : i.zero = some z)
    (hsize : i.size = 1) (hby : i.bytes = bytes) (hzs : z.cells.size = 1)
    (v : Value) (n : Nat) (xs : List Value) (hs : a.eval s = v) (hown : w.ownsRow base e 1 v n xs)
    (ad : Addr) (c : Nat) (u : Value) (hx : a.eval x = .slice (some ad) 1 c) (hcell : w.cell? ad = some u) (h1 : u.oneCell' = true)
    (h63 : n + 1 ≤ maxLen) (hbytes : (n + 1) * bytes ≤ 140737488355328) (hbase : base ≤ w.heap.size)
    (h : ∀ v' w', w'.ownsRow base e 1 v' (n + 1) (xs ++ [u]) → w.grownBy w' v.ownBlock → Near w v v' → wpList P ops Q rest (a.put o.dst v') w') : wpList P ops Q (o :: rest) a w := by
  have hc : ∀ j u', [u][j]? = some u' → w.cell? (ad.add j) = some u' := fun j u' hj => by
    match j, hj with
    | 0, hj =>
      simp at hj
      subst hj
      have : ad.add 0 = ad := by simp [Addr.add]
      rw [this]
      exact hcell
  have h1' : ∀ u' ∈ [u], u'.oneCell' = true := fun u' hu => by
    obtain rfl : u' = u := by simpa using hu
    exact h1
  have grows : ∀ (ao : Option Addr) (cap : Nat), v = .slice ao n cap → (ao = none → n = 0 ∧ cap = 0) → (∀ b, ao = some b → ∀ j u', xs[j]? = some u' → w.cell? (b.add j) = some u') → cap < n + 1 → wpList P ops Q (o :: rest) a w := fun ao cap hv hn hcs hfull => by
    refine wpList_append_grows w hgd s x t ho e i z 1 bytes ht hi hz hsize hby hzs (by decide) ao n cap xs (hs.trans hv) hn hown.1 hcs ad 1 c [u] hx rfl hc h1' hfull h63 hbytes fun v' w' r1 r2 => h v' w' ?_ (grown_wide r2) ?_
    · refine ⟨r1.1, ?_⟩
      rcases r1.2 with r | ⟨g, cap', cur, e1, e2, e3⟩
      · exact Or.inl r
      · exact Or.inr ⟨g, cap', cur, e1, Nat.le_trans hbase e2, e3⟩
    · intro g hg
      exact Or.inr (r1.lt g hg).1
  have hown' := hown
  rcases hown.2 with ⟨hv, hn⟩ | ⟨g, cap, cur, hv, hb, hh, hnc, _⟩
  · refine grows none 0 (by rw [hv, hn]) (fun _ => ⟨hn, rfl⟩) (fun b hb => by cases hb) (by omega)
  · subst hv
    by_cases hf : n + 1 ≤ cap
    · refine wpList_append_fits w hgd s x t ho base e i 1 ht hi hsize g n cap xs hs hown ad 1 c [u] hx rfl hc h1' hf fun w' r1 r2 => h _ w' r1 r2 fun g' hg' => Or.inl hg'
    · refine grows (some ⟨g, 0, none⟩) cap rfl (fun h => by cases h) (fun b hb j u' hj => ?_) (by omega)
      injection hb with hb
      subst hb
      have hjn : j < n := by
        have h1 := (List.getElem?_eq_some_iff.1 hj).1
        have h2 := hown'.1
        omega
      have e0 : (⟨g, 0, none⟩ : Addr).add j = ⟨g, j, none⟩ := by unfold Addr.add; split <;> simp_all
      rw [e0, hown'.cellAt j (by omega)]
      exact hj
theorem owned_kept {w w' : World} {B T n : Nat} {v pv : Value} {f : Nat → Value} (h : OwnsV w B T v n f) (hg : w.grownBy w' pv.ownBlock) (hne : ∀ g, pv.ownBlock = some g → v.ownBlock ≠ some g) : OwnsV w' B T v n f := by
  cases hv : v.ownBlock with
  | none => exact World.ownsRow.kept h hg (Or.inl hv)
  | some g =>
    refine World.ownsRow.kept h hg (Or.inr ?_)
    intro e
    exact hne g (by rw [← e]; exact hv) hv
/-- Two slices that lie apart. -/
def Apart (p r : Value) : Prop := ∀ g, p.ownBlock = some g → r.ownBlock ≠ some g
theorem Apart.near {w : World} {B T n : Nat} {p p' r : Value} {f : Nat → Value} (h : Apart p r) (hn : Near w p p') (hr : OwnsV w B T r n f) : Apart p' r := fun g hg e => by
  rcases hn g hg with h1 | h1
  · exact h g h1 e
  · have := (World.ownsRow.lt hr g e).2
    omega
theorem Apart.symm {p r : Value} (h : Apart p r) : Apart r p := fun g hg e => h g e hg
def putV (f : Nat → Value) (j : Nat) (u : Value) : Nat → Value := fun i => if i = j then u else f i
theorem OwnsV.store {w : World} {B T g n cap : Nat} {f : Nat → Value} (h : OwnsV w B T (.slice (some ⟨g, 0, none⟩) n cap) n f) (j : Nat) (u : Value) : OwnsV (w.setCell ⟨g, j, none⟩ u) B T (.slice (some ⟨g, 0, none⟩) n cap) n (putV f j u) := by
  have := (World.ownsRow.stored h j u).1
  unfold OwnsV
  have e : ((List.range n).map f).set j u = (List.range n).map (putV f j u) := by
    apply List.ext_getElem?
    intro i
    rw [List.getElem?_set]
    by_cases hij : j = i
    · subst hij
      by_cases hjn : j < n
      · simp [hjn, putV]
      · simp [hjn]
    · rw [if_neg hij]
      simp only [List.getElem?_map]
      by_cases hin : i < n
      · simp [hin, putV, Ne.symm hij]
      · simp [hin]
  rw [← e]
  exact this
theorem OwnsV.other {w : World} {B T g n : Nat} {v : Value} {f : Nat → Value} (h : OwnsV w B T v n f) (hne : v.ownBlock ≠ some g) (j : Nat) (u : Value) : OwnsV (w.setCell ⟨g, j, none⟩ u) B T v n f := ownsRow_setCell_other h hne u
theorem OwnsV.cell {w : World} {B T g n cap : Nat} {f : Nat → Value} (h : OwnsV w B T (.slice (some ⟨g, 0, none⟩) n cap) n f) (i : Nat) (hi : i < n) : w.cell? ⟨g, i, none⟩ = some (f i) := by
  rw [World.ownsRow.cellAt h i (by omega)]
  simp [hi]
theorem OwnsV.free {w : World} {B T g n cap : Nat} {f : Nat → Value} (h : OwnsV w B T (.slice (some ⟨g, 0, none⟩) n cap) n f) (i : Nat) : w.frozen? ⟨g, i, none⟩ = false := World.ownsRow.frozenAt h i
theorem OwnsV.some {w : World} {B T n : Nat} {v : Value} {f : Nat → Value} (h : OwnsV w B T v n f) (hn : 0 < n) : ∃ g cap, v = .slice (some ⟨g, 0, none⟩) n cap ∧ B ≤ g ∧ g < w.heap.size := by
  obtain ⟨ao, cap, rfl, hv⟩ := h.view
  obtain ⟨b, rfl, h1, h2, _⟩ := hv hn
  exact ⟨b, cap, rfl, h1, h2⟩
end Go.Proofs.YtbpaongnehgodaaDoor
