/- Acts of a reader, as an argument. -/
import Derived.Test.YtmepaeppkeaifaaViews
import Derived.Test.YtmepaeppkeaifaaNumLaw2
import Derived.Deep.SlicePairs
namespace Go.Proofs.Ytmepaeppkeaifaa
open Go.ChangeShapes Go.WideShapes Go.ChangeAt Go.WideElems Go.RowKit Go.Joins Go.Deep
theorem acts_of_trod {H : Type} {enc : TypeId × Value → H} {W : World} {n : Nat} {cs : List Value} {x : DataW H × List MemPlace} (h : DataW.trod enc Try.prog W 0 (fun _ => true) true n 66 cs = some x) :
    ∃ (ao : Option Addr) (len cap : Nat) (a m : Nat → Int), cs = [.slice ao len cap] ∧ len ≤ 9223372036854775807 ∧ (∀ i, i < len → -9223372036854775808 ≤ m i ∧ m i ≤ 9223372036854775807) ∧ ActsAt W ao len a m := by
  rcases open_slice_pairs Try.underlying66 Try.underlying71 (by kernel_rfl) rfl rfl (by kernel_rfl) (by kernel_rfl) h with ⟨hcs, hx⟩ | ⟨ad, len, cap, m, nn, V0, V1, D0, D1, P0, P1, hcs, _, hl, hm, hmm, hx, hi⟩
  · exact ⟨none, 0, 0, fun _ => 0, fun _ => 0, hcs, by omega, fun _ _ => by omega, fun h => absurd h (Nat.lt_irrefl 0)⟩
  · simp only [if_true] at hmm
    have hV : ∀ i, i < m → ∃ p q : Int, V0 i = .int .i64 p ∧ V1 i = .int .i64 q ∧ (Lit.int .i64 q).wf = true := fun i him => by
      obtain ⟨_, _, t0, t1⟩ := hi i him
      obtain ⟨p, e0, _, _⟩ := DataW.trod_int (k := .i64) (by kernel_rfl) t0
      obtain ⟨q, e1, _, w1⟩ := DataW.trod_int (k := .i64) (by kernel_rfl) t1
      exact ⟨p, q, by simpa using e0, by simpa using e1, w1⟩
    refine ⟨some ad, len, cap, fun i => (match V0 i with | .int _ p => p | _ => 0), fun i => (match V1 i with | .int _ p => p | _ => 0), hcs, by unfold maxLen at hm; omega, fun i hil => ?_, fun hp => ?_⟩
    · obtain ⟨p, q, e0, e1, w1⟩ := hV i (by omega)
      simp only [e1]
      exact bounds_i64 w1
    · obtain ⟨b, off, spot⟩ := ad
      have hspot : spot = none := by simpa [Addr.add] using World.cell?_spot (hi 0 (by omega)).1
      subst hspot
      refine ⟨b, off, rfl, World.block_lt_of_cell? W ⟨b, off + 0 * 2, none⟩ (by rw [← add_plain]; exact (hi 0 (by omega)).1), fun i hil => ?_⟩
      obtain ⟨p, q, e0, e1, w1⟩ := hV i (by omega)
      obtain ⟨c0, c1, _, _⟩ := hi i (by omega)
      rw [add_plain] at c0 c1
      simp only [e0, e1] at c0 c1 ⊢
      exact ⟨c0, by rw [Nat.add_assoc]; exact c1⟩
/-- An argument that is a slice of acts. -/
theorem acts_view {H : Type} {enc : TypeId × Value → H} {W : World} {v : Value} {d : DataW H} {p : List MemPlace} (hs : ∃ ao len cap, v = .slice ao len cap) (h : DataW.Trod enc Try.prog W 0 (fun _ => true) true 66 v d p) :
    ∃ (ao : Option Addr) (len cap : Nat) (a m : Nat → Int), v = .slice ao len cap ∧ len ≤ 9223372036854775807 ∧ (∀ i, i < len → -9223372036854775808 ≤ m i ∧ m i ≤ 9223372036854775807) ∧ ActsAt W ao len a m := by
  obtain ⟨ao, len, cap, rfl⟩ := hs
  obtain ⟨fuel, hf⟩ := h
  obtain ⟨ao', len', cap', a, m, hcs, h1, h2, h3⟩ := acts_of_trod hf
  simp [Value.cells] at hcs
  obtain ⟨rfl, rfl, rfl⟩ := hcs
  exact ⟨_, _, _, a, m, rfl, h1, h2, h3⟩
end Go.Proofs.Ytmepaeppkeaifaa
