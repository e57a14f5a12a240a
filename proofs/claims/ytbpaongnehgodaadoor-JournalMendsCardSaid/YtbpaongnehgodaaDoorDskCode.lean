/- The disk's small functions: fits, Check, Bytes; the document's Wrong, Goes. Disks are small: each text has at most 4,000 bytes. -/
import Derived.Test.YtbpaongnehgodaaDoorFrameLaw1
import Derived.Test.YtbpaongnehgodaaDoorFrameRefScan
import Derived.Test.YtbpaongnehgodaaDoorFrameView
import Derived.WalkKit
import Derived.IntWalk
import Derived.Deep.QuietTactic
import Derived.BigQuiet
import Derived.BigRegion
import Derived.Lib.Hide
import Derived.Deep.RegionLaw
import Derived.StillTailTactics
import Derived.Shelf.Abstract
namespace Go.Proofs.YtbpaongnehgodaaDoor
open Go.ChangeShapes Go.WideShapes Go.ChangeAt Go.RowKit
/-- A disk. -/
def dv (s t : ByteArray) (f : Int) (d : Bool) : Value := .agg #[.string s, .string t, .int .i64 f, .bool d]
/-- Three texts of at most 4,000 bytes. -/
def Small (s t : ByteArray) : Prop := s.size ≤ 4000 ∧ t.size ≤ 4000
theorem fits_any (s t x : ByteArray) (f : Int) (d : Bool) (h : Small s t) (hx : x.size ≤ 4000) (w : World) :
    Calls Tryd.prog 34 #[.agg #[.string s, .string t, .int .i64 f, .bool d], .string x] w (Ret (.bool true) w) := by
  obtain ⟨h1, h2⟩ := h
  have n1 : (s.size : Int) ≤ 4000 := by omega
  have n2 : (t.size : Int) ≤ 4000 := by omega
  have n3 : (x.size : Int) ≤ 4000 := by omega
  have d1 : decide ((s.size : Int) + t.size + x.size ≤ 1048576) = true := decide_eq_true (by omega)
  have d2 : decide (s.size + t.size + x.size ≤ 1048576) = true := decide_eq_true (by omega)
  go_enter Tryd.func34, Tryd.ntmps34
  go_wp2_with fail
  go_ret
  exact ⟨rfl, by go_grown⟩
/-- Whether a small disk may be. -/
def dchk (f : Int) : Int := if f < -1 then 1 else 0
theorem box_kept {w w1 : World} {cs : Array Value} {ty : TypeId} (h : Below (w.alloc (.cells cs ty)).heap.size (w.alloc (.cells cs ty)) w1) : w1.heap[w.heap.size]? = some (.cells cs ty (0, 0)) := (h.block _ (by simp)).trans (heap_alloc_new _ _)
theorem below_box {w w1 : World} {o : Obj} (h : Below (w.alloc o).heap.size (w.alloc o) w1) : Below w.heap.size w w1 := ((Below.refl _ _).alloc (Nat.le_refl _) _).trans (h.mono (by simp))
/-- A disk lies at g. -/
def DB (w : World) (g : Nat) (s t : ByteArray) (f : Int) (d : Bool) : Prop := w.heap[g]? = some (.cells #[.string s, .string t, .int .i64 f, .bool d] 26 (0, 0))
theorem DB.cells {w : World} {g : Nat} {s t : ByteArray} {f : Int} {d : Bool} (h : DB w g s t f d) :
    w.cell? ⟨g, 0, none⟩ = some (.string s) ∧ w.cell? ⟨g, 1, none⟩ = some (.string t) ∧ w.cell? ⟨g, 2, none⟩ = some (.int .i64 f) ∧ w.cell? ⟨g, 3, none⟩ = some (.bool d) := by
  unfold DB at h
  simp [World.cell?, h]
theorem DB.free {w : World} {g : Nat} {s t : ByteArray} {f : Int} {d : Bool} (h : DB w g s t f d) (i : Nat) : w.frozen? ⟨g, i, none⟩ = false := by
  unfold DB at h
  simp [World.frozen?, h]
theorem dcheck_any (s t : ByteArray) (f : Int) (d : Bool) (h : Small s t) (w : World) :
    Calls Tryd.prog 23 #[.agg #[.string s, .string t, .int .i64 f, .bool d]] w (Ret (.int .i64 (dchk f)) w) := by
  have HF := Lib.hid (fun W => fits_any s t ⟨#[]⟩ f d h (by decide) W)
  clear h
  by_cases hf : f < -1
  · have d1 : decide (f < -1) = true := decide_eq_true hf
    have e1 : dchk f = 1 := if_pos hf
    rw [e1]
    clear hf e1
    go_enter Tryd.func23, Tryd.ntmps23
    go_wp2_with fail
    refine (HF.out _).mono ?_
    rintro e w1 ⟨rfl, h1⟩
    have HB := Lib.hid (below_box h1)
    obtain ⟨_, _, k2, _⟩ := DB.cells (box_kept h1)
    clear h1
    go_wp2_with fail
    go_ret
    exact ⟨rfl, HB.out⟩
  · have d1 : decide (f < -1) = false := decide_eq_false hf
    have e1 : dchk f = 0 := if_neg hf
    rw [e1]
    clear hf e1
    go_enter Tryd.func23, Tryd.ntmps23
    go_wp2_with fail
    refine (HF.out _).mono ?_
    rintro e w1 ⟨rfl, h1⟩
    have HB := Lib.hid (below_box h1)
    obtain ⟨_, _, k2, _⟩ := DB.cells (box_kept h1)
    clear h1
    go_wp2_with fail
    go_ret
    exact ⟨rfl, HB.out⟩
theorem dbytes_any (s t : ByteArray) (f : Int) (d : Bool) (h : Small s t) (w : World) :
    Calls Tryd.prog 38 #[.agg #[.string s, .string t, .int .i64 f, .bool d]] w (Ret (.string (s ++ t)) w) := by
  obtain ⟨h1, h2⟩ := h
  go_enter Tryd.func38, Tryd.ntmps38
  have hadd : ∀ W, (Op.stringOp .add s t).run Tryd.prog W = .ok (.string (s ++ t)) W := fun W => run_string_add W s t (by omega) (by omega)
  go_wp2_with fail
  go_ret
  exact ⟨rfl, by go_grown⟩
end Go.Proofs.YtbpaongnehgodaaDoor
