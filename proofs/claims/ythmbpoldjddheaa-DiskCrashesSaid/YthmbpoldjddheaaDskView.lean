/- A disk, as an argument. -/
import Derived.Test.YthmbpoldjddheaaVOwn
import Derived.Deep.Slices
import Derived.Deep.Fields
import Derived.ChangeSame
namespace Go.Proofs.Ythmbpoldjddheaa
open Go.ChangeShapes Go.WideShapes Go.ChangeAt Go.WideElems Go.RowKit Go.Joins Go.Deep
theorem diskCells : Try.prog.cellsOf 49 = 4 := by kernel_rfl
theorem len_four {α : Type} : ∀ {l : List α}, l.length = 4 → ∃ a b c d, l = [a, b, c, d]
  | [a, b, c, d], _ => ⟨a, b, c, d, rfl⟩
  | [], h => by simp at h
  | [_], h => by simp at h
  | [_, _], h => by simp at h
  | [_, _, _], h => by simp at h
  | _ :: _ :: _ :: _ :: _ :: _, h => by simp at h
theorem disk_view {H : Type} {enc : TypeId × Value → H} {W : World} {v : Value} {x : DataW H} {p : List MemPlace} (hs : ∃ cs, v = .agg cs ∧ cs.size = Try.prog.cellsOf 49) (h : DataW.Trod enc Try.prog W 0 (fun _ => true) true 49 v x p) :
    ∃ (s t : ByteArray) (f : Int) (d : Bool), v = .agg #[.string s, .string t, .int .i64 f, .bool d] ∧ s.size ≤ 9223372036854775807 ∧ t.size ≤ 9223372036854775807 ∧ (-9223372036854775808 ≤ f ∧ f ≤ 9223372036854775807) := by
  obtain ⟨⟨cs⟩, rfl, hsz⟩ := hs
  rw [diskCells] at hsz
  obtain ⟨fuel, hf⟩ := h
  obtain ⟨a, b, c, d, rfl⟩ := len_four (by simpa using hsz)
  change DataW.trod enc Try.prog W 0 (fun _ => true) true fuel 49 [a, b, c, d] = some (x, p) at hf
  obtain ⟨ys, n', hn', hy, hlen, hyl, hfi⟩ := DataW.trod_struct Try.underlying49 hf
  have h0 := hfi 0 _ rfl
  have h1 := hfi 1 _ rfl
  have h2 := hfi 2 _ rfl
  have h3 := hfi 3 _ rfl
  have hyl' : ys.length = 4 := hyl
  obtain ⟨y0, y1, y2, y3, rfl⟩ := len_four hyl'
  have k0 : Try.prog.cellsOf 9 = 1 := by kernel_rfl
  have k1 : Try.prog.cellsOf 3 = 1 := by kernel_rfl
  have k2 : Try.prog.cellsOf 4 = 1 := by kernel_rfl
  change DataW.trod enc Try.prog W 0 (fun _ => true) true n' 9 (List.take (Try.prog.cellsOf 9) [a, b, c, d]) = some y0 at h0
  change DataW.trod enc Try.prog W 0 (fun _ => true) true n' 9 (List.take (Try.prog.cellsOf 9) [b, c, d]) = some y1 at h1
  change DataW.trod enc Try.prog W 0 (fun _ => true) true n' 3 (List.take (Try.prog.cellsOf 3) [c, d]) = some y2 at h2
  change DataW.trod enc Try.prog W 0 (fun _ => true) true n' 4 (List.take (Try.prog.cellsOf 4) [d]) = some y3 at h3
  rw [k0] at h0 h1
  rw [k1] at h2
  rw [k2] at h3
  obtain ⟨s', e0, _, z0⟩ := DataW.trod_string (by kernel_rfl) h0
  obtain ⟨t', e1, _, z1⟩ := DataW.trod_string (by kernel_rfl) h1
  obtain ⟨f', e2, _, z2⟩ := DataW.trod_int (k := .i64) (by kernel_rfl) h2
  obtain ⟨d', e3, _⟩ := DataW.trod_bool (by kernel_rfl) h3
  simp only [List.take_succ_cons, List.take_zero, List.cons.injEq, and_true] at e0 e1 e2 e3
  subst e0 e1 e2 e3
  unfold maxLen at z0 z1
  exact ⟨s', t', f', d', rfl, by omega, by omega, bounds_i64 z2⟩
end Go.Proofs.Ythmbpoldjddheaa
