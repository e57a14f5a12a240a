/- Tables: rows of two cells in a slice of one's own; append of one row. -/
import Derived.Test.YthmbpoldjddheaaTabBase
import Derived.Test.YthmbpoldjddheaaAppend
namespace Go.Proofs.Ythmbpoldjddheaa
open Go.ChangeShapes Go.WideShapes Go.ChangeAt Go.RowKit
/-- The cells of n rows. -/
def rowCells (a : Nat → Int) (s : Nat → ByteArray) : Nat → List Value | 0 => [] | n + 1 => rowCells a s n ++ [.int .i64 (a n), .string (s n)]
theorem rowCells_length (a : Nat → Int) (s : Nat → ByteArray) : ∀ n, (rowCells a s n).length = n * 2
  | 0 => rfl
  | n + 1 => by rw [rowCells, List.length_append, rowCells_length a s n]; simp; omega
theorem rowCells_at (a : Nat → Int) (s : Nat → ByteArray) : ∀ n i, i < n → (rowCells a s n)[i * 2]? = some (.int .i64 (a i)) ∧ (rowCells a s n)[i * 2 + 1]? = some (.string (s i))
  | 0, _, h => absurd h (Nat.not_lt_zero _)
  | n + 1, i, h => by
    have hl := rowCells_length a s n
    rw [rowCells]
    rcases Nat.lt_or_ge i n with l | l
    · have ih := rowCells_at a s n i l
      rw [List.getElem?_append_left (by omega), List.getElem?_append_left (by omega)]
      exact ih
    · obtain rfl : i = n := by omega
      rw [List.getElem?_append_right (by omega), List.getElem?_append_right (by omega), hl]
      simp
theorem rowCells_congr {a a' : Nat → Int} {s s' : Nat → ByteArray} : ∀ n, (∀ i, i < n → a i = a' i ∧ s i = s' i) → rowCells a s n = rowCells a' s' n
  | 0, _ => rfl
  | n + 1, h => by rw [rowCells, rowCells, rowCells_congr n (fun i hi => h i (by omega)), (h n (by omega)).1, (h n (by omega)).2]
/-- n rows in a slice of one's own, whose blocks come behind B. -/
def OwnsR (w : World) (B T : Nat) (v : Value) (n : Nat) (a : Nat → Int) (s : Nat → ByteArray) : Prop := w.ownsRow B T 2 v n (rowCells a s n)
theorem OwnsR.nil (w : World) (B T : Nat) (a : Nat → Int) (s : Nat → ByteArray) : OwnsR w B T (.slice none 0 0) 0 a s := World.ownsRow_nil _ _ _ _
theorem OwnsR.congr {w : World} {B T n : Nat} {v : Value} {a a' : Nat → Int} {s s' : Nat → ByteArray} (h : OwnsR w B T v n a s) (e : ∀ i, i < n → a i = a' i ∧ s i = s' i) : OwnsR w B T v n a' s' := by
  unfold OwnsR at *
  rw [← rowCells_congr n e]
  exact h
theorem OwnsR.next {w' : World} {B T n : Nat} {v' : Value} {a : Nat → Int} {s : Nat → ByteArray} (h : w'.ownsRow B T 2 v' (n + 1) (rowCells a s n ++ [.int .i64 (a n), .string (s n)])) : OwnsR w' B T v' (n + 1) a s := h
theorem OwnsR.view {w : World} {B T n : Nat} {v : Value} {a : Nat → Int} {s : Nat → ByteArray} (h : OwnsR w B T v n a s) : ∃ ao cap, v = .slice ao n cap ∧ RowsAt w ao n a s := by
  rcases h.2 with ⟨rfl, rfl⟩ | ⟨g, cap, cur, rfl, hB, hh, hr⟩
  · exact ⟨none, 0, rfl, fun hn => absurd hn (Nat.lt_irrefl 0)⟩
  · refine ⟨some ⟨g, 0, none⟩, cap, rfl, fun _ => ⟨g, 0, rfl, lt_of_block hh, fun i hi => ?_⟩⟩
    have hi2 : i * 2 + 1 < n * 2 := by omega
    rw [Nat.zero_add, World.ownsRow.cellAt h (i * 2) (by omega), World.ownsRow.cellAt h (i * 2 + 1) hi2]
    exact rowCells_at a s n i hi
theorem wpList_append_row {P : Program} (w : World) {ops : Array Oper} {rest : List Oper} {o : Oper} {a : Act} {Q : Exit → Act → World → Prop} (hgd : o.guard = none) (s x : Operand) (t : TypeId)
    (ho : o.op = .call { callee := .builtin .append, args := #[s, x], argTypes := #[t, t] })
    (base : Nat) (e : TypeId) (i : TypeInfo) (z : Value) (bytes : Nat) (ht : P.underlying t = some (.slice e)) (hi : P.info? e = some i) (hz : i.zero = some z)
    (hsize : i.size = 2) (hby : i.bytes = bytes) (hzs : z.cells.size = 2)
    (v : Value) (n : Nat) (xs : List Value) (hs : a.eval s = v) (hown : w.ownsRow base e 2 v n xs)
    (b : Nat) (c : Nat) (u0 u1 : Value) (hx : a.eval x = .slice (some ⟨b, 0, none⟩) 1 c) (hc0 : w.cell? ⟨b, 0, none⟩ = some u0) (hc1 : w.cell? ⟨b, 1, none⟩ = some u1) (h0 : u0.oneCell' = true) (h1 : u1.oneCell' = true)
    (h63 : n + 1 ≤ maxLen) (hbytes : (n + 1) * bytes ≤ 140737488355328) (hbase : base ≤ w.heap.size)
    (h : ∀ v' w', w'.ownsRow base e 2 v' (n + 1) (xs ++ [u0, u1]) → w.grownBy w' v.ownBlock → Near w v v' → wpList P ops Q rest (a.put o.dst v') w') : wpList P ops Q (o :: rest) a w := by
  have hadd : ∀ g j, (⟨g, 0, none⟩ : Addr).add j = ⟨g, j, none⟩ := fun g j => by unfold Addr.add; split <;> simp_all
  have hc : ∀ j u', [u0, u1][j]? = some u' → w.cell? ((⟨b, 0, none⟩ : Addr).add j) = some u' := fun j u' hj => by
    rw [hadd]
    match j, hj with
    | 0, hj => simp at hj; subst hj; exact hc0
    | 1, hj => simp at hj; subst hj; exact hc1
  have h1' : ∀ u' ∈ [u0, u1], u'.oneCell' = true := fun u' hu => by
    rcases List.mem_cons.1 hu with rfl | hu
    · exact h0
    · obtain rfl : u' = u1 := by simpa using hu
      exact h1
  have grows : ∀ (ao : Option Addr) (cap : Nat), v = .slice ao n cap → (ao = none → n = 0 ∧ cap = 0) → (∀ b, ao = some b → ∀ j u', xs[j]? = some u' → w.cell? (b.add j) = some u') → cap < n + 1 → wpList P ops Q (o :: rest) a w := fun ao cap hv hn hcs hfull => by
    refine wpList_append_grows w hgd s x t ho e i z 2 bytes ht hi hz hsize hby hzs (by decide) ao n cap xs (hs.trans hv) hn hown.1 hcs ⟨b, 0, none⟩ 1 c [u0, u1] hx rfl hc h1' hfull h63 hbytes fun v' w' r1 r2 => h v' w' ?_ (grown_wide r2) ?_
    · refine ⟨r1.1, ?_⟩
      rcases r1.2 with r | ⟨g, cap', cur, e1, e2, e3⟩
      · exact Or.inl r
      · exact Or.inr ⟨g, cap', cur, e1, Nat.le_trans hbase e2, e3⟩
    · intro g hg
      exact Or.inr (r1.lt g hg).1
  have hown' := hown
  rcases hown.2 with ⟨hv, hn⟩ | ⟨g, cap, cur, hv, hb, hh, hnc, _⟩
  · refine grows none 0 (by rw [hv, hn]) (fun _ => ⟨hn, rfl⟩) (fun b hb => by cases hb) (by omega)
  · subst hv
    by_cases hf : n + 1 ≤ cap
    · refine wpList_append_fits w hgd s x t ho base e i 2 ht hi hsize g n cap xs hs hown ⟨b, 0, none⟩ 1 c [u0, u1] hx rfl hc h1' hf fun w' r1 r2 => h _ w' r1 r2 fun g' hg' => Or.inl hg'
    · refine grows (some ⟨g, 0, none⟩) cap rfl (fun h => by cases h) (fun b hb j u' hj => ?_) (by omega)
      injection hb with hb
      subst hb
      have hjn : j < n * 2 := by
        have h1 := (List.getElem?_eq_some_iff.1 hj).1
        have h2 := hown'.1
        omega
      rw [hadd, hown'.cellAt j (by omega)]
      exact hj
end Go.Proofs.Ythmbpoldjddheaa
