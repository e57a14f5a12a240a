/- Acts of a disk, as an argument. -/
import Derived.Test.YthmbpoldjddheaaVOwn
import Derived.Test.YthmbpoldjddheaaDskKeep
import Derived.Deep.Slices
import Derived.Deep.Fields
import Derived.ChangeSame
namespace Go.Proofs.Ythmbpoldjddheaa
open Go.ChangeShapes Go.WideShapes Go.ChangeAt Go.WideElems Go.RowKit Go.Joins Go.Deep
theorem actCells : Try.prog.cellsOf 61 = 3 := by kernel_rfl
theorem len_threes {α : Type} : ∀ {l : List α}, l.length = 3 → ∃ a b c, l = [a, b, c]
  | [a, b, c], _ => ⟨a, b, c, rfl⟩
  | [], h => by simp at h
  | [_], h => by simp at h
  | [_, _], h => by simp at h
  | _ :: _ :: _ :: _ :: _, h => by simp at h
theorem dacts_of_trod {H : Type} {enc : TypeId × Value → H} {W : World} {n : Nat} {cs : List Value} {x : DataW H × List MemPlace} (h : DataW.trod enc Try.prog W 0 (fun _ => true) true n 59 cs = some x) :
    ∃ (ao : Option Addr) (len cap : Nat) (k : Nat → Int) (t : Nat → ByteArray) (y : Nat → Int), cs = [.slice ao len cap] ∧ len ≤ 9223372036854775807 ∧ (∀ i, i < len → (t i).size ≤ 9223372036854775807) ∧ DActs W ao len k t y := by
  rcases open_slice Try.underlying59 h with ⟨hcs, hx⟩ | ⟨ad, len, cap, m, nn, D, Pl, hcs, _, hl, hm, hmm, hx, hi⟩
  · exact ⟨none, 0, 0, fun _ => 0, fun _ => ⟨#[]⟩, fun _ => 0, hcs, by omega, fun _ _ => by omega, fun h => absurd h (Nat.lt_irrefl 0)⟩
  · simp only [if_true] at hmm
    unfold maxLen at hm
    have hV : ∀ i, ∃ (p : Int) (q : ByteArray) (r : Int), i < m → (q.size ≤ 9223372036854775807 ∧ W.cell? (ad.add (i * 3)) = some (.int .i64 p) ∧ W.cell? (ad.add (i * 3 + 1)) = some (.string q) ∧ W.cell? (ad.add (i * 3 + 2)) = some (.int .i64 r)) := fun i => by
      by_cases him : i < m
      · obtain ⟨cs', hc, ht'⟩ := hi i him
        rw [actCells] at hc
        obtain ⟨ys, n', hn', hy, hlen, hyl, hf⟩ := DataW.trod_struct Try.underlying61 ht'
        obtain ⟨_, hcl, hat⟩ := World.cells?_some hc
        have h0 := hf 0 _ rfl
        have h1 := hf 1 _ rfl
        have h2 := hf 2 _ rfl
        have a0 := hat 0 (by decide)
        have a1 := hat 1 (by decide)
        have a2 := hat 2 (by decide)
        obtain ⟨p, q, r, rfl⟩ := len_threes hcl
        have hyl' : ys.length = 3 := hyl
        obtain ⟨y0, y1, y2, rfl⟩ := len_threes hyl'
        have k0 : Try.prog.cellsOf 3 = 1 := by kernel_rfl
        have k1 : Try.prog.cellsOf 9 = 1 := by kernel_rfl
        have k2 : Try.prog.cellsOf 3 = 1 := by kernel_rfl
        change DataW.trod enc Try.prog W 0 (fun _ => true) true n' 3 (List.take (Try.prog.cellsOf 3) [p, q, r]) = some y0 at h0
        change DataW.trod enc Try.prog W 0 (fun _ => true) true n' 9 (List.take (Try.prog.cellsOf 9) [q, r]) = some y1 at h1
        change DataW.trod enc Try.prog W 0 (fun _ => true) true n' 3 (List.take (Try.prog.cellsOf 3) [r]) = some y2 at h2
        rw [k0] at h0
        rw [k1] at h1
        rw [k2] at h2
        obtain ⟨p', e0, _, _⟩ := DataW.trod_int (k := .i64) (by kernel_rfl) h0
        obtain ⟨q', e1, _, z2⟩ := DataW.trod_string (by kernel_rfl) h1
        obtain ⟨r', e2, _, _⟩ := DataW.trod_int (k := .i64) (by kernel_rfl) h2
        simp only [List.take_succ_cons, List.take_zero, List.cons.injEq, and_true] at e0 e1 e2
        subst e0 e1 e2
        unfold maxLen at z2
        refine ⟨p', q', r', fun _ => ⟨by omega, ?_, ?_, ?_⟩⟩
        · simpa [Go.Deep.add_add] using a0
        · simpa [Go.Deep.add_add] using a1
        · simpa [Go.Deep.add_add] using a2
      · exact ⟨0, ⟨#[]⟩, 0, fun h => absurd h him⟩
    obtain ⟨k, hk⟩ := Classical.axiomOfChoice hV
    obtain ⟨t, hy⟩ := Classical.axiomOfChoice hk
    obtain ⟨y, ht⟩ := Classical.axiomOfChoice hy
    refine ⟨some ad, len, cap, k, t, y, hcs, by omega, fun i hil => (ht i (by omega)).1, fun hp => ?_⟩
    obtain ⟨b, off, spot⟩ := ad
    have hspot : spot = none := by simpa [Addr.add] using World.cell?_spot (ht 0 (by omega)).2.1
    subst hspot
    refine ⟨b, off, rfl, World.block_lt_of_cell? W ⟨b, off + 0 * 3, none⟩ (by rw [← add_plain]; exact (ht 0 (by omega)).2.1), fun i hil => ?_⟩
    obtain ⟨_, c0, c1, c2⟩ := ht i (by omega)
    rw [add_plain] at c0 c1 c2
    exact ⟨c0, by rw [Nat.add_assoc]; exact c1, by rw [Nat.add_assoc]; exact c2⟩
/-- An argument that is a slice of calls. -/
theorem dacts_view {H : Type} {enc : TypeId × Value → H} {W : World} {v : Value} {d : DataW H} {p : List MemPlace} (hs : ∃ ao len cap, v = .slice ao len cap) (h : DataW.Trod enc Try.prog W 0 (fun _ => true) true 59 v d p) :
    ∃ (ao : Option Addr) (len cap : Nat) (k : Nat → Int) (t : Nat → ByteArray) (y : Nat → Int), v = .slice ao len cap ∧ len ≤ 9223372036854775807 ∧ (∀ i, i < len → (t i).size ≤ 9223372036854775807) ∧ DActs W ao len k t y := by
  obtain ⟨ao, len, cap, rfl⟩ := hs
  obtain ⟨fuel, hf⟩ := h
  obtain ⟨ao', len', cap', k, t, y, hcs, h1, h2, h3⟩ := dacts_of_trod hf
  simp [Value.cells] at hcs
  obtain ⟨rfl, rfl, rfl⟩ := hcs
  exact ⟨_, _, _, k, t, y, rfl, h1, h2, h3⟩
end Go.Proofs.Ythmbpoldjddheaa
