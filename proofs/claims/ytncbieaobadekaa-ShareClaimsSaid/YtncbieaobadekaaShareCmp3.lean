/- The comparator of byRest, as what the sort asks. -/
import Derived.Test.YtncbieaobadekaaShareCmp2
namespace Go.Proofs.Ytncbieaobadekaa
open Go.ChangeShapes Go.WideShapes Go.ChangeAt Go.RowKit
def restK (z : Nat → Int) (x y : Int) : Prop := z y.toNat < z x.toNat
def restC (z : Nat → Int) (x y : Int) : Int := cmp3 (z y.toNat) (z x.toNat)
theorem restC_lt (z : Nat → Int) (x y : Int) : restC z x y < 0 ↔ restK z x y := by
  unfold restC restK cmp3
  split
  · exact ⟨fun _ => ‹_›, fun _ => by omega⟩
  · split
    · exact ⟨fun h => by omega, fun h => by omega⟩
    · exact ⟨fun h => by omega, fun h => by omega⟩
def RestInv (z : Nat → Int) (n cap r off p g : Nat) (W : World) : Prop :=
  p ≠ g ∧ (0 < n → r ≠ g) ∧ W.cell? ⟨p, 0, none⟩ = some (.slice (some ⟨r, off, none⟩) n cap) ∧ ∀ i, i < n → W.cell? ⟨r, off + i, none⟩ = some (.int .i64 (z i))
theorem lt_of_cell {W : World} {b o : Nat} {v : Value} (h : W.cell? ⟨b, o, none⟩ = some v) : b < W.heap.size := by
  rcases Nat.lt_or_ge b W.heap.size with h1 | h1
  · exact h1
  · simp [World.cell?, Array.getElem?_eq_none h1] at h
theorem gr_cell {g : Nat} {W W' : World} (h : Gr g W W') {b o : Nat} {v : Value} (hv : W.cell? ⟨b, o, none⟩ = some v) (hne : b ≠ g) : W'.cell? ⟨b, o, none⟩ = some v := by
  have := h.block b (lt_of_cell hv) (fun e => hne (by injection e))
  rw [← hv]
  simp [World.cell?, this]
set_option maxRecDepth 100000 in
theorem rest_ok (z : Nat → Int) (n cap r off p g : Nat) (hn : n ≤ 1000000) :
    CmpOk 94 #[.pointer (some ⟨p, 0, none⟩)] g (fun v => 0 ≤ v ∧ v < (n : Int)) (restC z) (RestInv z n cap r off p g) where
  enter := fun args w => by first | rfl | exact run_callFunc_user Try.func94 | simp [go_sem, callFunc, Try.func94]
  calls := fun W hI x y hx hy => by
    obtain ⟨a, rfl⟩ : ∃ a : Nat, x = (a : Int) := ⟨x.toNat, by omega⟩
    obtain ⟨b, rfl⟩ : ∃ b : Nat, y = (b : Int) := ⟨y.toNat, by omega⟩
    exact byRest1_any z n cap r off p a b hn (by omega) (by omega) W hI.2.2.1 hI.2.2.2
  inv := fun W W' hI hg => ⟨hI.1, hI.2.1, gr_cell hg hI.2.2.1 hI.1, fun i hi => gr_cell hg (hI.2.2.2 i hi) (hI.2.1 (by omega))⟩
  draws := fun W q hI => hI
theorem rest_swo (z : Nat → Int) : SWO (restK z) := ⟨fun x y h1 h2 => by unfold restK at *; omega, fun x y t h1 h2 h3 => by unfold restK at *; omega⟩
end Go.Proofs.Ytncbieaobadekaa
