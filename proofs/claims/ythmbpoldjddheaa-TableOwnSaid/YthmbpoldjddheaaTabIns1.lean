/- Tables: copies of rows; what an insertion makes. -/
import Derived.Test.YthmbpoldjddheaaTabDropT
import Derived.Shelf.Spec.SlicesInsert
import Derived.Lib.AppendZerosOnto
import Derived.Laws.NewBlocks
import Derived.Laws.CopyOwn
namespace Go.Proofs.Ythmbpoldjddheaa
open Go.ChangeShapes Go.WideShapes Go.ChangeAt Go.RowKit
/-- A row of cells with some cells laid over it. -/
def over (L : List Value) (o : Nat) (cs : List Value) : List Value := L.take o ++ cs ++ L.drop (o + cs.length)
theorem over_length (L : List Value) (o : Nat) (cs : List Value) (h : o + cs.length ≤ L.length) : (over L o cs).length = L.length := by
  simp only [over, List.length_append, List.length_take, List.length_drop]
  omega
theorem over_take (L : List Value) (o : Nat) (cs : List Value) (h : o + cs.length ≤ L.length) : (over L o cs).take (o + cs.length) = L.take o ++ cs := by
  have e : (L.take o ++ cs).length = o + cs.length := by rw [List.length_append, List.length_take]; omega
  unfold over
  rw [List.take_append_of_le_length (by rw [e]; exact Nat.le_refl _), List.take_of_length_le (by rw [e]; exact Nat.le_refl _)]
theorem over_twice (L C Q : List Value) (o : Nat) (h : o + C.length + Q.length ≤ L.length) : (over (over L o C) (o + C.length) Q).take (o + C.length + Q.length) = L.take o ++ C ++ Q := by
  rw [over_take _ _ _ (by rw [over_length _ _ _ (by omega)]; exact h), over_take _ _ _ (by omega)]
/-- copy of elements of k cells, over a row. -/
theorem run_copy_k {P : Program} (w : World) (dT sT ty elem : TypeId) (k g o dLen dCap : Nat) (a : Addr) (sLen sCap : Nat) (L : List Value) (t : TypeId) (cs : List Value)
    (hu : P.underlying dT = some (.slice elem)) (hs : (P.info? elem).map (·.size) = some k)
    (hg : w.heap[g]? = some (.cells L.toArray t (0, 0))) (hn : cs.length = Nat.min sLen dLen * k)
    (hsrc : ∀ j v, cs[j]? = some v → w.cell? (a.add j) = some v) (hfit : o + cs.length ≤ L.length) (h1 : ∀ v ∈ cs, v.oneCell' = true) :
    (Builtin.copy_ #[dT, sT] ty #[.slice (some ⟨g, o, none⟩) dLen dCap, .slice (some a) sLen sCap]).run P w =
      .ok (goInt (Nat.min sLen dLen)) (w.setRow g (over L o cs).toArray) := by
  have hl := run_loadCells_list (P := P) w a cs hsrc
  have hst := run_storeCells_at P g o t cs 0 L.toArray w hg (by simpa using hfit) h1
  cases hq : P.info? elem with
  | none => simp [hq] at hs
  | some i =>
    have hi : i.size = k := by simpa [hq] using hs
    rw [hn] at hl
    unfold over
    simp only [Nat.add_zero] at hst
    simp [Builtin.copy_, run_underlying hu, Builtin.lenOf, Builtin.firstCells, sizeOf, typeInfo, hq, hi, hl, hst]
/-- With a row put at place i. -/
def insA (a : Nat → Int) (i : Nat) (x : Int) : Nat → Int := fun t => if t < i then a t else if t = i then x else a (t - 1)
def insS (s : Nat → ByteArray) (i : Nat) (x : ByteArray) : Nat → ByteArray := fun t => if t < i then s t else if t = i then x else s (t - 1)
theorem rowCells_ins (a : Nat → Int) (s : Nat → ByteArray) (n i : Nat) (x : Int) (t : ByteArray) (hi : i ≤ n) :
    rowCells (insA a i x) (insS s i t) (n + 1) = rowCells a s i ++ [.int .i64 x, .string t] ++ rowCells (fun q => a (q + i)) (fun q => s (q + i)) (n - i) := by
  obtain ⟨m, rfl⟩ : ∃ m, n = i + m := ⟨n - i, by omega⟩
  rw [show i + m + 1 = (i + 1) + m by omega, rowCells_split, rowCells, show i + m - i = m by omega]
  congr 1
  · congr 1
    · exact rowCells_congr i fun q hq => by simp [insA, insS, hq]
    · simp [insA, insS]
  · exact rowCells_congr m fun q hq => by
      unfold insA insS
      rw [if_neg (by omega), if_neg (by omega), if_neg (by omega), if_neg (by omega), show q + (i + 1) - 1 = q + i by omega]
      exact ⟨rfl, rfl⟩
/-- Rows of one's own, laid out of a block. -/
theorem OwnsR.of_block {w : World} {B T g n cap : Nat} {L : List Value} {a : Nat → Int} {s : Nat → ByteArray} (hB : B ≤ g) (hg : w.heap[g]? = some (.cells L.toArray T (0, 0))) (hl : L.length = cap * 2) (hn : n ≤ cap) (hm : cap ≤ maxLen) (ht : L.take (n * 2) = rowCells a s n) : OwnsR w B T (.slice (some ⟨g, 0, none⟩) n cap) n a s :=
  ⟨rowCells_length _ _ _, Or.inr ⟨g, cap, L.toArray, rfl, hB, hg, hn, hm, by simpa using hl, by simpa using ht⟩⟩
theorem OwnsR.block {w : World} {B T g n cap : Nat} {a : Nat → Int} {s : Nat → ByteArray} (h : OwnsR w B T (.slice (some ⟨g, 0, none⟩) n cap) n a s) : ∃ L : List Value, w.heap[g]? = some (.cells L.toArray T (0, 0)) ∧ L.length = cap * 2 ∧ B ≤ g ∧ n ≤ cap ∧ cap ≤ maxLen ∧ L.take (n * 2) = rowCells a s n := by
  rcases h.2 with ⟨e, _⟩ | ⟨g', cap', cur, e, h1, h2, h3, h4, h5, h6⟩
  · cases e
  · injection e with e1 e2 e3
    injection e1 with e1
    injection e1 with e1
    subst e1 e3
    exact ⟨cur.toList, by simpa using h2, by simpa using h5, h1, h3, h4, h6⟩
end Go.Proofs.Ythmbpoldjddheaa
