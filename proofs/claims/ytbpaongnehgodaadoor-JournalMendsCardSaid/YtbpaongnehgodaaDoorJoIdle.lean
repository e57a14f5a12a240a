/- journal.idle, Read, cut. -/
import Derived.Test.YtbpaongnehgodaaDoorJoFirst
namespace Go.Proofs.YtbpaongnehgodaaDoor
open Go.ChangeShapes Go.WideShapes Go.ChangeAt Go.RowKit
/-- Is a text not empty? -/
def some? (t : ByteArray) : Bool := decide (t ≠ ⟨#[]⟩)
/-- What is wrong with a disk that is to be cut. -/
def idleE (t : ByteArray) (f : Int) (d : Bool) : Int := first3 (dchk f) (if d = true then 16 else 0) (if some? t = true then 3 else 0)
/-- A disk in a box, the functions in another one, and what was there. -/
def IdI (w0 : World) (g k : Nat) (s t : ByteArray) (f : Int) (d : Bool) (fs : Array Value) (T : Nat) (W : World) : Prop := DB W g s t f d ∧ W.heap[k]? = some (.cells fs T (0, 0)) ∧ Below w0.heap.size w0 W
theorem IdI.below {w0 : World} {g k : Nat} {s t : ByteArray} {f : Int} {d : Bool} {fs : Array Value} {T : Nat} {W W' : World} (h : IdI w0 g k s t f d fs T W) (hb : Below W.heap.size W W') : IdI w0 g k s t f d fs T W' :=
  ⟨(hb.block _ (lt_of_block h.1)).trans h.1, (hb.block _ (lt_of_block h.2.1)).trans h.2.1, h.2.2.trans (hb.mono h.2.2.size)⟩
theorem idle1_ok (w0 : World) (g k : Nat) (s t : ByteArray) (f : Int) (d : Bool) (h : Small s t) (fs : Array Value) (T : Nat) : Told 39 #[.pointer (some ⟨g, 0, none⟩)] (IdI w0 g k s t f d fs T) (dchk f) where
  enter := fun args w => by first | rfl | exact run_callFunc_user Tryd.func39
  calls := fun W hi => by
    have HC := Lib.hid (dcheck_any s t f d h W)
    obtain ⟨k0, k1, k2, k3⟩ := hi.1.cells
    have HI := Lib.hid hi
    clear hi h
    go_enter Tryd.func39, Tryd.ntmps39
    go_wp2_with fail
    refine HC.out.mono ?_
    rintro en w1 ⟨rfl, h1⟩
    have HI1 := Lib.hid (HI.out.below h1)
    clear h1
    go_wp2_with fail
    go_ret
    exact ⟨rfl, HI1.out⟩
theorem idle2_ok (w0 : World) (g k : Nat) (s t : ByteArray) (f : Int) (d : Bool) (fs : Array Value) (T : Nat) : Told 40 #[.pointer (some ⟨g, 0, none⟩)] (IdI w0 g k s t f d fs T) (if d = true then 16 else 0) where
  enter := fun args w => by first | rfl | exact run_callFunc_user Tryd.func40
  calls := fun W hi => by
    have HC := Lib.hid (when_any d 16 W)
    obtain ⟨k0, k1, k2, k3⟩ := hi.1.cells
    have HI := Lib.hid hi
    obtain ⟨x, hx⟩ : ∃ x : Int, (if d = true then (16 : Int) else 0) = x := ⟨_, rfl⟩
    rw [hx] at HC ⊢
    clear hi hx
    go_enter Tryd.func40, Tryd.ntmps40
    go_wp2_with fail
    refine HC.out.mono ?_
    rintro en w1 ⟨rfl, rfl⟩
    go_wp2_with fail
    go_ret
    exact ⟨rfl, HI.out⟩
theorem empty_toList {t : ByteArray} : t.toList = [] ↔ t = ⟨#[]⟩ := by
  constructor
  · intro h
    rw [ByteArray.toList_eq] at h
    exact bytes_inj (by rw [h])
  · rintro rfl
    rw [ByteArray.toList_eq]
theorem idle3_ok (w0 : World) (g k : Nat) (s t : ByteArray) (f : Int) (d : Bool) (fs : Array Value) (T : Nat) : Told 41 #[.pointer (some ⟨g, 0, none⟩)] (IdI w0 g k s t f d fs T) (if some? t = true then 3 else 0) where
  enter := fun args w => by first | rfl | exact run_callFunc_user Tryd.func41
  calls := fun W hi => by
    have HC := Lib.hid (when_any (some? t) 3 W)
    obtain ⟨k0, k1, k2, k3⟩ := hi.1.cells
    have HI := Lib.hid hi
    obtain ⟨x, hx⟩ : ∃ x : Int, (if some? t = true then (3 : Int) else 0) = x := ⟨_, rfl⟩
    rw [hx] at HC ⊢
    by_cases ht : t = ⟨#[]⟩
    · subst ht
      have e : some? ⟨#[]⟩ = false := by decide
      rw [e] at HC
      clear hi hx e
      go_enter Tryd.func41, Tryd.ntmps41
      go_wp2_with fail
      refine HC.out.mono ?_
      rintro en w1 ⟨rfl, rfl⟩
      go_wp2_with fail
      go_ret
      exact ⟨rfl, HI.out⟩
    · obtain ⟨g0, g1, g2, g3⟩ := tl_ne ht
      have e : some? t = true := decide_eq_true ht
      rw [e] at HC
      clear hi hx e ht
      go_enter Tryd.func41, Tryd.ntmps41
      go_wp2_with fail
      refine HC.out.mono ?_
      rintro en w1 ⟨rfl, rfl⟩
      go_wp2_with fail
      go_ret
      exact ⟨rfl, HI.out⟩
end Go.Proofs.YtbpaongnehgodaaDoor
