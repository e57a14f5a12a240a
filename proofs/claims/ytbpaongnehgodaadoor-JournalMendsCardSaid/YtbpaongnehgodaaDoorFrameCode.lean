/- Package frame: Size, set, least. -/
import Derived.Test.YtbpaongnehgodaaDoorFrameMath
import Derived.OwnWalk
import Derived.Lib.BufferWrite
import Derived.Laws.IdiomStrings
import Derived.Laws.MakeOwn
import Derived.WalkSmall
namespace Go.Proofs.YtbpaongnehgodaaDoor
open Go.ChangeShapes Go.WideShapes Go.ChangeAt Go.RowKit
/-- A byte, as a value. -/
def bv (b : UInt8) : Value := .int .u8 (b.toNat : Int)
/-- Block g holds these bytes. -/
def BytesAt (w : World) (g : Nat) (L : List UInt8) : Prop := w.heap[g]? = some (.cells (L.map bv).toArray 5 (0, 0))
/-- Nothing has turned but block g, and what is new. -/
abbrev Gr (g : Nat) (w w' : World) : Prop := w.grownBy w' (some g)
theorem gr_refl (g : Nat) (w : World) : Gr g w w := ⟨rfl, rfl, rfl, Nat.le_refl _, fun _ _ _ => rfl⟩
theorem gr_trans {g : Nat} {a b c : World} (h : Gr g a b) (k : Gr g b c) : Gr g a c :=
  ⟨k.os.trans h.os, k.tape.trans h.tape, k.output.trans h.output, Nat.le_trans h.size k.size, fun i hi hne => (k.block i (Nat.lt_of_lt_of_le hi h.size) hne).trans (h.block i hi hne)⟩
theorem gr_set {g : Nat} {a b : World} (h : Gr g a b) (o : Nat) (u : Value) : Gr g a (b.setCell ⟨g, o, none⟩ u) :=
  gr_trans h ⟨rfl, rfl, rfl, by simp [World.setCell], fun k _ hne => Below.heap_setCell _ _ _ _ (fun e => hne (by rw [e]))⟩
theorem gr_below {g : Nat} {a b : World} (h : Below a.heap.size a b) : Gr g a b := ⟨h.os, h.tape, h.output, h.size, fun k hk _ => h.block k hk⟩
theorem below_gr {B g : Nat} {w a b : World} (h : Below B w a) (hg : Gr g a b) (hB : B ≤ g) (hw : B ≤ w.heap.size) : Below B w b :=
  h.grown hg (Nat.le_trans hw h.size) (fun k hk => by injection hk with hk; omega)
theorem BytesAt.lt {w : World} {g : Nat} {L : List UInt8} (h : BytesAt w g L) : g < w.heap.size := lt_of_block h
theorem BytesAt.cell {w : World} {g : Nat} {L : List UInt8} (h : BytesAt w g L) (j : Nat) (hj : j < L.length) : w.cell? ⟨g, j, none⟩ = some (.int .u8 ((L[j].toNat : Nat) : Int)) := by
  unfold BytesAt at h
  simp [World.cell?, h, hj, bv]
theorem BytesAt.free {w : World} {g : Nat} {L : List UInt8} (h : BytesAt w g L) (j : Nat) : w.frozen? ⟨g, j, none⟩ = false := by
  unfold BytesAt at h
  simp [World.frozen?, h]
theorem BytesAt.store {w : World} {g : Nat} {L : List UInt8} (h : BytesAt w g L) (j : Nat) (b : UInt8) (u : Value) (hu : u = bv b) : BytesAt (w.setCell ⟨g, j, none⟩ u) g (L.set j b) := by
  subst hu
  unfold BytesAt at *
  have hlt := lt_of_block h
  have h' : w.heap[g] = .cells (L.map bv).toArray 5 (0, 0) := by simpa [Array.getElem?_eq_getElem hlt] using h
  show (w.heap.modify g _)[g]? = _
  rw [Array.getElem?_eq_getElem (by simpa using hlt), Array.getElem_modify_self, h']
  show some (Obj.cells ((L.map bv).toArray.setIfInBounds j (bv b)) 5 (0, 0)) = _
  congr 2
  apply Array.ext'
  simp only [Array.toList_setIfInBounds, List.map_set]
theorem BytesAt.below {w w' : World} {g : Nat} {L : List UInt8} (h : BytesAt w g L) (hb : Below w.heap.size w w') : BytesAt w' g L := by
  unfold BytesAt at *
  rw [hb.block g (lt_of_block h)]
  exact h
theorem size_any (s : ByteArray) (hs : s.size ≤ 1000000) (w : World) :
    Calls Tryd.prog 29 #[.string s] w (RetS (.int .i64 ((if 1024 < s.size then 0 else 8 + s.size : Nat) : Int)) w) := by
  have hs2 : (s.size : Int) ≤ 1000000 := by omega
  by_cases h : 1024 < s.size
  · have d1 := decide_eq_true h
    have d2 : decide (1024 < (s.size : Int)) = true := decide_eq_true (by omega)
    rw [if_pos h]
    clear h hs
    go_enter Tryd.func29, Tryd.ntmps29
    go_wp2
    go_ret
    exact ⟨rfl, rfl⟩
  · have d1 := decide_eq_false h
    have d2 : decide (1024 < (s.size : Int)) = false := decide_eq_false (by omega)
    have e : ((8 + s.size : Nat) : Int) = 8 + (s.size : Int) := by omega
    rw [if_neg h, e]
    clear h hs e
    go_enter Tryd.func29, Tryd.ntmps29
    go_wp2
    go_ret
    exact ⟨rfl, rfl⟩
theorem set4 (L : List UInt8) (o : Nat) (a b c d : UInt8) (h : o + 4 ≤ L.length) : (((L.set (o + 3) d).set (o + 2) c).set (o + 1) b).set o a = L.take o ++ [a, b, c, d] ++ L.drop (o + 4) := by
  obtain ⟨A, hA⟩ : ∃ A, A = L.take o := ⟨_, rfl⟩
  have hl : A.length = o := by rw [hA, List.length_take]; omega
  obtain ⟨D, hD⟩ : ∃ D, D = L.drop o := ⟨_, rfl⟩
  have hdl : D.length = L.length - o := by rw [hD, List.length_drop]
  have e : L = A ++ D := by rw [hA, hD, List.take_append_drop]
  have e4 : L.drop (o + 4) = D.drop 4 := by rw [hD, List.drop_drop]
  rw [← hA, e4, e]
  clear hA hD e e4
  match D, hdl with
  | [], h1 => simp at h1; omega
  | [_], h1 => simp at h1; omega
  | [_, _], h1 => simp at h1; omega
  | [_, _, _], h1 => simp at h1; omega
  | w :: x :: y :: z :: B, _ =>
    rw [List.set_append_right _ _ (by omega), List.set_append_right _ _ (by omega), List.set_append_right _ _ (by omega), List.set_append_right _ _ (by omega), hl]
    simp [show o + 3 - o = 3 by omega, show o + 2 - o = 2 by omega, show o + 1 - o = 1 by omega]
set_option maxHeartbeats 1000000 in
theorem set_any (g o len cap n : Nat) (L : List UInt8) (hn : n < 4294967296) (hlen : 4 ≤ len) (hl2 : len ≤ 1000000) (ho : o + 4 ≤ L.length) (w : World) (h : BytesAt w g L) :
    Calls Tryd.prog 32 #[.slice (some ⟨g, o, none⟩) len cap, .int .u32 (n : Nat)] w (fun e w' => e = .returned (.tuple #[]) ∧ Gr g w w' ∧ BytesAt w' g (L.take o ++ be4 n ++ L.drop (o + 4))) := by
  have c0 := h.cell o (by omega)
  have c1 := h.cell (o + 1) (by omega)
  have c2 := h.cell (o + 2) (by omega)
  have c3 := h.cell (o + 3) (by omega)
  have f0 := h.free o
  have f1 := h.free (o + 1)
  have f2 := h.free (o + 2)
  have f3 := h.free (o + 3)
  have n1 : (n : Int) ≤ 4294967295 := by omega
  have len1 : (4 : Int) ≤ (len : Int) := by omega
  have len2 : (len : Int) ≤ 1000000 := by omega
  have H := Lib.hid h
  clear h hn hl2
  generalize L[o].toNat = x0 at *
  generalize L[o + 1].toNat = x1 at *
  generalize L[o + 2].toNat = x2 at *
  generalize L[o + 3].toNat = x3 at *
  go_enter Tryd.func32, Tryd.ntmps32
  go_wp2
  refine wp_loop_rounds 5 ?_
  rw [rounds_succ]
  go_wp2
  rw [rounds_succ]
  go_wp2
  rw [rounds_succ]
  go_wp2
  rw [rounds_succ]
  go_wp2
  rw [rounds_succ]
  go_wp2
  go_end0
  refine ⟨rfl, gr_set (gr_set (gr_set (gr_set (gr_refl _ _) _ _) _ _) _ _) _ _, ?_⟩
  unfold be4
  rw [← set4 L o _ _ _ _ ho]
  refine BytesAt.store (BytesAt.store (BytesAt.store (BytesAt.store H.out _ _ _ ?_) _ _ _ ?_) _ _ _ ?_) _ _ _ ?_
  all_goals (unfold bv; simp; try omega)
end Go.Proofs.YtbpaongnehgodaaDoor
