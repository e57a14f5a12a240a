/- Two numbers, as an argument. -/
import Derived.Test.YtbpaongnehgodaaDoorJoTorn
import Derived.Deep.Slices
import Derived.Deep.Fields
import Derived.ChangeSame
namespace Go.Proofs.YtbpaongnehgodaaDoor
open Go.ChangeShapes Go.WideShapes Go.ChangeAt Go.WideElems Go.RowKit Go.Joins
theorem okArray12 {P : Program} {w : World} {r : Reach} {base : Nat} {t e : TypeId} {n : Nat} {v : Value} (ht : P.underlying t = some (.array n e)) (h : Value.okWide P w r base t v) : ∃ cs, v = .agg cs ∧ cs.size = P.cellsOf t := by
  simp only [Value.okWide, ht] at h
  obtain ⟨cs, h1, h2, _⟩ := h
  exact ⟨cs, h1, h2⟩
theorem cells12 : Tryd.prog.cellsOf 23 = 2 := by kernel_rfl
theorem cellsI12 : Tryd.prog.cellsOf 3 = 1 := by kernel_rfl
theorem arr2_view {H : Type} {enc : TypeId × Value → H} {W : World} {v : Value} {x : DataW H} {p : List MemPlace} (hs : ∃ cs, v = .agg cs ∧ cs.size = Tryd.prog.cellsOf 23) (h : DataW.Trod enc Tryd.prog W 0 (fun _ => true) true 23 v x p) :
    ∃ a b : Int, v = .agg #[.int .i64 a, .int .i64 b] ∧ (-9223372036854775808 ≤ a ∧ a ≤ 9223372036854775807) ∧ (-9223372036854775808 ≤ b ∧ b ≤ 9223372036854775807) := by
  obtain ⟨⟨cs⟩, rfl, hcs⟩ := hs
  rw [cells12] at hcs
  obtain ⟨c0, c1, rfl⟩ : ∃ c0 c1, cs = [c0, c1] := by
    match cs, hcs with
    | [c0, c1], _ => exact ⟨c0, c1, rfl⟩
    | [], h => simp at h
    | [_], h => simp at h
    | _ :: _ :: _ :: _, h => simp at h
  obtain ⟨fuel, hf⟩ := h
  obtain ⟨xs, m, _, hx, _, hl, hi⟩ := DataW.trod_array Tryd.underlying23 hf
  have g0 := hi 0 (by omega)
  have g1 := hi 1 (by omega)
  match xs, hl with
  | [y0, y1], _ =>
    rw [cellsI12] at g0 g1
    simp [Value.cells] at g0 g1
    obtain ⟨a, e0, _, wa⟩ := DataW.trod_int (k := .i64) Tryd.underlying3 g0
    obtain ⟨b, e1, _, wb⟩ := DataW.trod_int (k := .i64) Tryd.underlying3 g1
    simp at e0 e1
    subst e0 e1
    exact ⟨a, b, rfl, bounds_i64 wa, bounds_i64 wb⟩
end Go.Proofs.YtbpaongnehgodaaDoor
