/- What an argument reads as: a slice of keys. -/
import Derived.Test.YtncbieaobadekaaViews
import Derived.Test.YtncbieaobadekaaRankKeys
namespace Go.Proofs.Ytncbieaobadekaa
open Go.ChangeShapes Go.WideShapes Go.ChangeAt Go.WideElems Go.RowKit Go.Joins
theorem vCellsK : Try.prog.cellsOf 22 = 1 := by kernel_rfl
/-- n keys lie at the address, however long. -/
def RawKeys (w : World) (ao : Option Addr) (n : Nat) (K : Nat → Key) : Prop :=
  (∀ i, i < n → (K i).n ≤ 9223372036854775807 ∧ IntsAt w (K i).ao (K i).n (K i).z) ∧ (0 < n → ∃ b off, ao = some ⟨b, off, none⟩ ∧ b < w.heap.size ∧ ∀ i, i < n → w.cell? ⟨b, off + i, none⟩ = some (K i).val)
theorem RawKeys.keys {w : World} {ao : Option Addr} {n : Nat} {K : Nat → Key} (h : RawKeys w ao n K) (hk : ∀ i, i < n → (K i).n ≤ 1000000) : KeysAt w ao n K :=
  ⟨fun i hi => ⟨hk i hi, (h.1 i hi).2⟩, h.2⟩
theorem keys_view {H : Type} {enc : TypeId × Value → H} {W : World} {v : Value} {d : DataW H} {p : List MemPlace} (hs : ∃ ao len cap, v = .slice ao len cap) (h : DataW.Trod enc Try.prog W 0 (fun _ => true) true 61 v d p) :
    ∃ (ao : Option Addr) (len cap : Nat) (K : Nat → Key), v = .slice ao len cap ∧ len ≤ 9223372036854775807 ∧ RawKeys W ao len K ∧ (ao = none → cap = 0) := by
  obtain ⟨ao, len, cap, rfl⟩ := hs
  obtain ⟨fuel, hf⟩ := h
  rcases DataW.trod_slice Try.underlying61 hf with ⟨hcs, _⟩ | ⟨a, len', cap', elems, rest, n, _, hcs, hx, _, hl, hm, hlen, hel, _⟩
  · simp [Value.cells] at hcs
    obtain ⟨rfl, rfl, rfl⟩ := hcs
    exact ⟨none, 0, 0, fun _ => ⟨none, 0, 0, fun _ => 0⟩, rfl, by omega, ⟨fun i hi => absurd hi (Nat.not_lt_zero _), fun h => absurd h (Nat.lt_irrefl 0)⟩, fun _ => rfl⟩
  · simp [Value.cells] at hcs
    obtain ⟨rfl, rfl, rfl⟩ := hcs
    have each : ∀ i, i < len → ∃ k : Key, W.cell? (a.add i) = some k.val ∧ k.n ≤ 9223372036854775807 ∧ IntsAt W k.ao k.n k.z := fun i hi => by
      have hE := hel i hi
      rw [vCellsK, Nat.mul_one, List.getElem?_eq_getElem (by omega)] at hE
      simp only [Option.bind_eq_some_iff] at hE
      obtain ⟨c1, hc1, hy1⟩ := hE
      have e0 : (a.add i).add 0 = a.add i := by simp [Addr.add]
      have : ∃ c, c1 = [c] ∧ W.cell? (a.add i) = some c := by
        unfold World.cells? at hc1
        split at hc1
        · simp only [List.range_succ, List.range_zero, List.nil_append, List.mapM_cons, List.mapM_nil, e0] at hc1
          cases hcc : W.cell? (a.add i) with
          | none => simp [hcc] at hc1
          | some c => simp [hcc] at hc1; exact ⟨c, hc1.symm, rfl⟩
        · cases hc1
      obtain ⟨c, rfl, hcell⟩ := this
      obtain ⟨ko, kn, kc, kz, hcs, h1, _, h3⟩ := ints_of_trod hy1
      injection hcs with hcs
      exact ⟨⟨ko, kn, kc, kz⟩, by rw [hcell, hcs]; rfl, h1, h3⟩
    let K : Nat → Key := fun i => if hi : i < len then (each i hi).choose else ⟨none, 0, 0, fun _ => 0⟩
    have hK : ∀ i, i < len → W.cell? (a.add i) = some (K i).val ∧ (K i).n ≤ 9223372036854775807 ∧ IntsAt W (K i).ao (K i).n (K i).z := fun i hi => by
      have : K i = (each i hi).choose := dif_pos hi
      rw [this]
      exact (each i hi).choose_spec
    refine ⟨some a, len, cap, K, rfl, by unfold maxLen at hm; omega, ⟨fun i hi => (hK i hi).2, fun hp => ?_⟩, fun h => by cases h⟩
    obtain ⟨b, off, spot⟩ := a
    have hspot : spot = none := by simpa [Addr.add] using World.cell?_spot (hK 0 hp).1
    subst hspot
    exact ⟨b, off, rfl, World.block_lt_of_cell? W ⟨b, off + 0, none⟩ (by rw [← add_plain]; exact (hK 0 hp).1), fun i hi => by rw [← add_plain]; exact (hK i hi).1⟩
end Go.Proofs.Ytncbieaobadekaa
