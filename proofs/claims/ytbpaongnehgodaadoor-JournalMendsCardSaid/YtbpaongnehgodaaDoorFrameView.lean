/- A slice of texts, as an argument. -/
import Derived.Test.YtbpaongnehgodaaDoorFrameLaw1
import Derived.SliceStrings
import Derived.ProofKit
import Derived.OpenShut
import Derived.Lib.SmallJoins
namespace Go.Proofs.YtbpaongnehgodaaDoor
open Go.ChangeShapes Go.WideShapes Go.ChangeAt Go.WideElems Go.RowKit Go.Joins
theorem strs_of_trod {H : Type} {enc : TypeId × Value → H} {W : World} {n : Nat} {cs : List Value} {x : DataW H × List MemPlace} (h : DataW.trod enc Tryd.prog W 0 (fun _ => true) true n 22 cs = some x) :
    ∃ (ao : Option Addr) (len cap : Nat) (t : Nat → ByteArray), cs = [.slice ao len cap] ∧ (len ≤ cap ∧ cap ≤ 9223372036854775807) ∧ (∀ i, i < len → (t i).size ≤ 9223372036854775807) ∧ StrsAt W ao len (fun i => .string (t i)) := by
  rcases open_strings Tryd.underlying22 Tryd.underlying9 (by kernel_rfl) h with ⟨hcs, hx⟩ | ⟨ad, len, cap, ss, hcs, _, hl, hm, hmm, hx, hi, hz⟩
  · exact ⟨none, 0, 0, fun _ => ⟨#[]⟩, hcs, ⟨Nat.le_refl _, by omega⟩, fun _ _ => by omega, fun h => absurd h (Nat.lt_irrefl 0)⟩
  · simp only [if_true] at hmm
    unfold maxLen at hm hz
    refine ⟨some ad, len, cap, fun i => ss.getD i ByteArray.empty, hcs, ⟨hl, by omega⟩, fun i hil => ?_, fun hp => ?_⟩
    · have hlt : i < ss.length := by omega
      have e : ss.getD i ByteArray.empty = ss[i] := by simp [List.getD, hlt]
      have := hz _ (List.getElem_mem hlt)
      simp only [e]
      omega
    · obtain ⟨b, off, spot⟩ := ad
      have hspot : spot = none := by simpa [Addr.add] using World.cell?_spot (hi 0 (by omega))
      subst hspot
      exact ⟨b, off, rfl, World.block_lt_of_cell? W ⟨b, off + 0, none⟩ (by rw [← add_plain]; exact hi 0 (by omega)), fun i hil => by rw [← add_plain]; exact hi i (by omega)⟩
/-- An argument that is a slice of texts. -/
theorem strs_view {H : Type} {enc : TypeId × Value → H} {W : World} {v : Value} {d : DataW H} {p : List MemPlace} (hs : ∃ ao len cap, v = .slice ao len cap) (h : DataW.Trod enc Tryd.prog W 0 (fun _ => true) true 22 v d p) :
    ∃ (ao : Option Addr) (len cap : Nat) (t : Nat → ByteArray), v = .slice ao len cap ∧ (len ≤ cap ∧ cap ≤ 9223372036854775807) ∧ (∀ i, i < len → (t i).size ≤ 9223372036854775807) ∧ StrsAt W ao len (fun i => .string (t i)) := by
  obtain ⟨ao, len, cap, rfl⟩ := hs
  obtain ⟨fuel, hf⟩ := h
  obtain ⟨ao', len', cap', t, hcs, h1, h2, h3⟩ := strs_of_trod hf
  simp [Value.cells] at hcs
  obtain ⟨rfl, rfl, rfl⟩ := hcs
  exact ⟨_, _, _, t, rfl, h1, h2, h3⟩
end Go.Proofs.YtbpaongnehgodaaDoor
