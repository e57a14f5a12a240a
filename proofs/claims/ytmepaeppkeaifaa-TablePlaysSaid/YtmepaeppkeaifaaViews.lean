/- What arguments read as: slices of amounts; arrays. -/
import Derived.Test.YtmepaeppkeaifaaNBase
import Derived.WalkKit
import Derived.ProofKit
import Derived.OpenShut
import Derived.ChangeOld
import Derived.Below
import Derived.LaidMore
import Derived.Stop.Joined
import Derived.Lib.SmallJoins
namespace Go.Proofs.Ytmepaeppkeaifaa
open Go.ChangeShapes Go.WideShapes Go.ChangeAt Go.WideElems Go.RowKit Go.Joins
theorem vOwn : ownKnob Try.prog.godebug = none := by kernel_rfl
theorem vCellsI : Try.prog.cellsOf 2 = 1 := by kernel_rfl
theorem vLaidOut : laidOutB Try.prog = true := by kernel_rfl
theorem ints_of_trod {H : Type} {enc : TypeId × Value → H} {W : World} {n : Nat} {cs : List Value} {x : DataW H × List MemPlace} (h : DataW.trod enc Try.prog W 0 (fun _ => true) true n 50 cs = some x) :
    ∃ (ao : Option Addr) (len cap : Nat) (z : Nat → Int), cs = [.slice ao len cap] ∧ len ≤ 9223372036854775807 ∧ (∀ i, i < len → -9223372036854775808 ≤ z i ∧ z i ≤ 9223372036854775807) ∧ IntsAt W ao len z := by
  rcases open_ints Try.underlying50 Try.underlying2 vCellsI h with ⟨hcs, hx⟩ | ⟨ad, len, cap, zs, hcs, _, hl, hm, hz, hx, hcell, hwz⟩
  · exact ⟨none, 0, 0, fun _ => 0, hcs, by omega, fun _ _ => by omega, fun h => absurd h (Nat.lt_irrefl 0)⟩
  · simp only [if_true] at hz
    refine ⟨some ad, len, cap, fun i => zs.getD i 0, hcs, by unfold maxLen at hm; omega, fun i hi => ?_, fun hp => ?_⟩
    · have hlt : i < zs.length := by omega
      have e : zs.getD i 0 = zs[i] := by simp [List.getD, hlt]
      show _ ≤ zs.getD i 0 ∧ zs.getD i 0 ≤ _
      rw [e]
      exact bounds_i64 (hwz _ (List.getElem_mem hlt))
    · obtain ⟨b, off, spot⟩ := ad
      have hspot : spot = none := by simpa [Addr.add] using World.cell?_spot (hcell 0 (by omega))
      subst hspot
      exact ⟨b, off, rfl, World.block_lt_of_cell? W ⟨b, off + 0, none⟩ (by rw [← add_plain]; exact hcell 0 (by omega)), fun i hi => by rw [← add_plain]; exact hcell i (by omega)⟩
/-- An argument that is a slice of amounts. -/
theorem ints_view {H : Type} {enc : TypeId × Value → H} {W : World} {v : Value} {d : DataW H} {p : List MemPlace} (hs : ∃ ao len cap, v = .slice ao len cap) (h : DataW.Trod enc Try.prog W 0 (fun _ => true) true 50 v d p) :
    ∃ (ao : Option Addr) (len cap : Nat) (z : Nat → Int), v = .slice ao len cap ∧ len ≤ 9223372036854775807 ∧ (∀ i, i < len → -9223372036854775808 ≤ z i ∧ z i ≤ 9223372036854775807) ∧ IntsAt W ao len z := by
  obtain ⟨ao, len, cap, rfl⟩ := hs
  obtain ⟨fuel, hf⟩ := h
  obtain ⟨ao', len', cap', z, hcs, h1, h2, h3⟩ := ints_of_trod hf
  simp [Value.cells] at hcs
  obtain ⟨rfl, rfl, rfl⟩ := hcs
  exact ⟨_, _, _, z, rfl, h1, h2, h3⟩
end Go.Proofs.Ytmepaeppkeaifaa
