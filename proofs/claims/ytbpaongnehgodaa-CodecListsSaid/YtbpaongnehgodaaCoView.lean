/- A command, as an argument. -/
import Derived.Test.YtbpaongnehgodaaVOwn
import Derived.Test.YtbpaongnehgodaaCoBase
import Derived.Deep.Slices
import Derived.Deep.Fields
import Derived.ChangeSame
namespace Go.Proofs.Ytbpaongnehgodaa
open Go.ChangeShapes Go.WideShapes Go.ChangeAt Go.WideElems Go.RowKit Go.Joins Go.Deep
theorem cmdCells : Try.prog.cellsOf 23 = 7 := by kernel_rfl
theorem len_seven {α : Type} : ∀ {l : List α}, l.length = 7 → ∃ a b c d e f g, l = [a, b, c, d, e, f, g]
  | [a, b, c, d, e, f, g], _ => ⟨a, b, c, d, e, f, g, rfl⟩
  | [], h => by simp at h
  | [_], h => by simp at h
  | [_, _], h => by simp at h
  | [_, _, _], h => by simp at h
  | [_, _, _, _], h => by simp at h
  | [_, _, _, _, _], h => by simp at h
  | [_, _, _, _, _, _], h => by simp at h
  | _ :: _ :: _ :: _ :: _ :: _ :: _ :: _ :: _, h => by simp at h
theorem cmd_of_trod {H : Type} {enc : TypeId × Value → H} {W : World} {l : List Value} {x : DataW H} {p : List MemPlace} (hl : l.length = 7) {fuel : Nat} (hf : DataW.trod enc Try.prog W 0 (fun _ => true) true fuel 23 l = some (x, p)) :
    ∃ k i m o s q r : Int, l = [.int .i64 k, .int .i64 i, .int .i64 m, .int .i64 o, .int .i64 s, .int .i64 q, .int .i64 r] ∧ (-9223372036854775808 ≤ k ∧ k ≤ 9223372036854775807) ∧ (-9223372036854775808 ≤ i ∧ i ≤ 9223372036854775807) ∧ (-9223372036854775808 ≤ m ∧ m ≤ 9223372036854775807) ∧ (-9223372036854775808 ≤ o ∧ o ≤ 9223372036854775807) ∧ (-9223372036854775808 ≤ s ∧ s ≤ 9223372036854775807) ∧ (-9223372036854775808 ≤ q ∧ q ≤ 9223372036854775807) ∧ (-9223372036854775808 ≤ r ∧ r ≤ 9223372036854775807) := by
  obtain ⟨a, b, c, d, e, f, g, rfl⟩ := len_seven hl
  obtain ⟨ys, n', hn', hy, hlen, hyl, hfi⟩ := DataW.trod_struct Try.underlying23 hf
  have h0 := hfi 0 _ rfl
  have h1 := hfi 1 _ rfl
  have h2 := hfi 2 _ rfl
  have h3 := hfi 3 _ rfl
  have h4 := hfi 4 _ rfl
  have h5 := hfi 5 _ rfl
  have h6 := hfi 6 _ rfl
  have hyl' : ys.length = 7 := hyl
  obtain ⟨y0, y1, y2, y3, y4, y5, y6, rfl⟩ := len_seven hyl'
  have k0 : Try.prog.cellsOf 3 = 1 := by kernel_rfl
  have k1 : Try.prog.cellsOf 2 = 1 := by kernel_rfl
  change DataW.trod enc Try.prog W 0 (fun _ => true) true n' 3 (List.take (Try.prog.cellsOf 3) [a, b, c, d, e, f, g]) = some y0 at h0
  change DataW.trod enc Try.prog W 0 (fun _ => true) true n' 2 (List.take (Try.prog.cellsOf 2) [b, c, d, e, f, g]) = some y1 at h1
  change DataW.trod enc Try.prog W 0 (fun _ => true) true n' 3 (List.take (Try.prog.cellsOf 3) [c, d, e, f, g]) = some y2 at h2
  change DataW.trod enc Try.prog W 0 (fun _ => true) true n' 3 (List.take (Try.prog.cellsOf 3) [d, e, f, g]) = some y3 at h3
  change DataW.trod enc Try.prog W 0 (fun _ => true) true n' 3 (List.take (Try.prog.cellsOf 3) [e, f, g]) = some y4 at h4
  change DataW.trod enc Try.prog W 0 (fun _ => true) true n' 2 (List.take (Try.prog.cellsOf 2) [f, g]) = some y5 at h5
  change DataW.trod enc Try.prog W 0 (fun _ => true) true n' 2 (List.take (Try.prog.cellsOf 2) [g]) = some y6 at h6
  rw [k0] at h0 h2 h3 h4
  rw [k1] at h1 h5 h6
  obtain ⟨v0, e0, _, z0⟩ := DataW.trod_int (k := .i64) (by kernel_rfl) h0
  obtain ⟨v1, e1, _, z1⟩ := DataW.trod_int (k := .i64) (by kernel_rfl) h1
  obtain ⟨v2, e2, _, z2⟩ := DataW.trod_int (k := .i64) (by kernel_rfl) h2
  obtain ⟨v3, e3, _, z3⟩ := DataW.trod_int (k := .i64) (by kernel_rfl) h3
  obtain ⟨v4, e4, _, z4⟩ := DataW.trod_int (k := .i64) (by kernel_rfl) h4
  obtain ⟨v5, e5, _, z5⟩ := DataW.trod_int (k := .i64) (by kernel_rfl) h5
  obtain ⟨v6, e6, _, z6⟩ := DataW.trod_int (k := .i64) (by kernel_rfl) h6
  simp only [List.take_succ_cons, List.take_zero, List.cons.injEq, and_true] at e0 e1 e2 e3 e4 e5 e6
  subst e0 e1 e2 e3 e4 e5 e6
  exact ⟨v0, v1, v2, v3, v4, v5, v6, rfl, bounds_i64 z0, bounds_i64 z1, bounds_i64 z2, bounds_i64 z3, bounds_i64 z4, bounds_i64 z5, bounds_i64 z6⟩
theorem cmd_view {H : Type} {enc : TypeId × Value → H} {W : World} {v : Value} {x : DataW H} {p : List MemPlace} (hs : ∃ cs, v = .agg cs ∧ cs.size = Try.prog.cellsOf 23) (h : DataW.Trod enc Try.prog W 0 (fun _ => true) true 23 v x p) :
    ∃ k i m o s q r : Int, v = .agg #[.int .i64 k, .int .i64 i, .int .i64 m, .int .i64 o, .int .i64 s, .int .i64 q, .int .i64 r] ∧ (-9223372036854775808 ≤ k ∧ k ≤ 9223372036854775807) ∧ (-9223372036854775808 ≤ i ∧ i ≤ 9223372036854775807) ∧ (-9223372036854775808 ≤ m ∧ m ≤ 9223372036854775807) ∧ (-9223372036854775808 ≤ o ∧ o ≤ 9223372036854775807) ∧ (-9223372036854775808 ≤ s ∧ s ≤ 9223372036854775807) ∧ (-9223372036854775808 ≤ q ∧ q ≤ 9223372036854775807) ∧ (-9223372036854775808 ≤ r ∧ r ≤ 9223372036854775807) := by
  obtain ⟨⟨cs⟩, rfl, hsz⟩ := hs
  rw [cmdCells] at hsz
  obtain ⟨fuel, hf⟩ := h
  obtain ⟨k, i, m, o, s, q, r, e, hh⟩ := cmd_of_trod (l := cs) (by simpa using hsz) hf
  subst e
  exact ⟨k, i, m, o, s, q, r, rfl, hh⟩
end Go.Proofs.Ytbpaongnehgodaa
