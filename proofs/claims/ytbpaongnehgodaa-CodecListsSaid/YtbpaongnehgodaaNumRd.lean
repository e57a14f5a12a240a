/- Readers: what lies in one, its small calls, and what may be. -/
import Derived.Test.YtbpaongnehgodaaNumPut
namespace Go.Proofs.Ytbpaongnehgodaa
open Go.ChangeShapes Go.WideShapes Go.ChangeAt Go.RowKit
/-- Block g holds a reader: what is left, and the first error. -/
def RAt (T : Nat) (w : World) (g : Nat) (s : ByteArray) (e : Int) : Prop := w.heap[g]? = some (.cells #[.string s, .int .i64 e] T (0, 0))
/-- Nothing has turned but block g, and what is new. -/
abbrev Gr (g : Nat) (w w' : World) : Prop := w.grownBy w' (some g)
theorem gr_refl (g : Nat) (w : World) : Gr g w w := ⟨rfl, rfl, rfl, Nat.le_refl _, fun _ _ _ => rfl⟩
theorem gr_trans {g : Nat} {a b c : World} (h : Gr g a b) (k : Gr g b c) : Gr g a c :=
  ⟨k.os.trans h.os, k.tape.trans h.tape, k.output.trans h.output, Nat.le_trans h.size k.size, fun i hi hne => (k.block i (Nat.lt_of_lt_of_le hi h.size) hne).trans (h.block i hi hne)⟩
theorem gr_set {g : Nat} {a b : World} (h : Gr g a b) (o : Nat) (u : Value) : Gr g a (b.setCell ⟨g, o, none⟩ u) :=
  gr_trans h ⟨rfl, rfl, rfl, by simp [World.setCell], fun k _ hne => Below.heap_setCell _ _ _ _ (fun e => hne (by rw [e]))⟩
theorem gr_below {g : Nat} {a b : World} (h : Below a.heap.size a b) : Gr g a b := ⟨h.os, h.tape, h.output, h.size, fun k hk _ => h.block k hk⟩
theorem RAt.lt {T : Nat} {w : World} {g : Nat} {s : ByteArray} {e : Int} (h : RAt T w g s e) : g < w.heap.size := lt_of_block h
theorem RAt.c0 {T : Nat} {w : World} {g : Nat} {s : ByteArray} {e : Int} (h : RAt T w g s e) : w.cell? ⟨g, 0, none⟩ = some (.string s) := by
  unfold RAt at h
  simp [World.cell?, h]
theorem RAt.c1 {T : Nat} {w : World} {g : Nat} {s : ByteArray} {e : Int} (h : RAt T w g s e) : w.cell? ⟨g, 1, none⟩ = some (.int .i64 e) := by
  unfold RAt at h
  simp [World.cell?, h]
theorem RAt.f {T : Nat} {w : World} {g : Nat} {s : ByteArray} {e : Int} (h : RAt T w g s e) (o : Nat) : w.frozen? ⟨g, o, none⟩ = false := by
  unfold RAt at h
  simp [World.frozen?, h]
theorem RAt.below {T : Nat} {w w' : World} {g : Nat} {s : ByteArray} {e : Int} (h : RAt T w g s e) (hb : Below w.heap.size w w') : RAt T w' g s e := by
  unfold RAt at *
  rw [hb.block g (lt_of_block h)]
  exact h
theorem RAt.other {T : Nat} {w w' : World} {g k : Nat} {s : ByteArray} {e : Int} (h : RAt T w g s e) (hb : Gr k w w') (hne : g ≠ k) : RAt T w' g s e := by
  unfold RAt at *
  rw [hb.block g (lt_of_block h) (fun e => hne (by injection e))]
  exact h
theorem RAt.set0 {T : Nat} {w : World} {g : Nat} {s : ByteArray} {e : Int} (h : RAt T w g s e) (s' : ByteArray) : RAt T (w.setCell ⟨g, 0, none⟩ (.string s')) g s' e := by
  unfold RAt at *
  have hlt := lt_of_block h
  have h' : w.heap[g] = .cells #[.string s, .int .i64 e] T (0, 0) := by simpa [Array.getElem?_eq_getElem hlt] using h
  show (w.heap.modify g _)[g]? = _
  rw [Array.getElem?_eq_getElem (by simpa using hlt), Array.getElem_modify_self, h']
  rfl
theorem RAt.set1 {T : Nat} {w : World} {g : Nat} {s : ByteArray} {e : Int} (h : RAt T w g s e) (e' : Int) : RAt T (w.setCell ⟨g, 1, none⟩ (.int .i64 e')) g s e' := by
  unfold RAt at *
  have hlt := lt_of_block h
  have h' : w.heap[g] = .cells #[.string s, .int .i64 e] T (0, 0) := by simpa [Array.getElem?_eq_getElem hlt] using h
  show (w.heap.modify g _)[g]? = _
  rw [Array.getElem?_eq_getElem (by simpa using hlt), Array.getElem_modify_self, h']
  rfl
theorem RAt.new (T : Nat) (w : World) (s : ByteArray) : RAt T (w.alloc (.cells #[.string s, .int .i64 0] T)) w.heap.size s 0 := heap_alloc_new w _
/-- A pointer at a block. -/
abbrev ptr (g : Nat) : Value := .pointer (some ⟨g, 0, none⟩)
theorem new_any (s : ByteArray) (w : World) :
    Calls Try.prog 29 #[.string s] w (fun e w' => e = .returned (ptr w.heap.size) ∧ Below w.heap.size w w' ∧ RAt 68 w' w.heap.size s 0) := by
  have HR := Lib.hid (RAt.new 68 w s)
  go_enter Try.func29, Try.ntmps29
  go_wp2
  go_ret
  exact ⟨rfl, by go_grown, HR.out⟩
theorem err_any (g : Nat) (s : ByteArray) (e : Int) (w : World) (h : RAt 68 w g s e) :
    Calls Try.prog 41 #[ptr g] w (RetS (.int .i64 e) w) := by
  have c1 := h.c1
  clear h
  go_enter Try.func41, Try.ntmps41
  go_wp2
  go_ret
  exact ⟨rfl, rfl⟩
theorem left_any (g : Nat) (s : ByteArray) (e : Int) (w : World) (h : RAt 68 w g s e) (hs : s.size ≤ 1000000) :
    Calls Try.prog 43 #[ptr g] w (RetS (.int .i64 (s.size : Nat)) w) := by
  have c0 := h.c0
  have hs2 : (s.size : Int) ≤ 1000000 := by omega
  clear h hs
  go_enter Try.func43, Try.ntmps43
  go_wp2
  go_ret
  exact ⟨rfl, rfl⟩
/-- What End tells. -/
def endV (s : ByteArray) (e : Int) : Int := if e ≠ 0 then e else if 0 < s.size then 3 else 0
theorem end_any (g : Nat) (s : ByteArray) (e : Int) (w : World) (h : RAt 68 w g s e) (hs : s.size ≤ 1000000) :
    Calls Try.prog 31 #[ptr g] w (RetS (.int .i64 (endV s e)) w) := by
  have HE := Lib.hid (err_any g s e w h)
  have HL := Lib.hid (left_any g s e w h hs)
  clear h
  by_cases he : e = 0
  · subst he
    by_cases hz : 0 < s.size
    · have d1 := decide_eq_true hz
      have d2 : decide (0 < (s.size : Int)) = true := decide_eq_true (by omega)
      have HV : Hid (endV s 0 = 3) := by show _ = _; unfold endV; rw [if_neg (by simp), if_pos hz]
      clear hz hs
      go_enter Try.func31, Try.ntmps31
      go_wp2_with fail
      refine HE.out.mono ?_
      rintro e w1 ⟨rfl, rfl⟩
      go_wp2_with fail
      refine HL.out.mono ?_
      rintro e w1 ⟨rfl, rfl⟩
      go_wp2
      go_ret
      exact ⟨by rw [HV.out]; rfl, rfl⟩
    · have d1 := decide_eq_false hz
      have d2 : decide (0 < (s.size : Int)) = false := decide_eq_false (by omega)
      have HV : Hid (endV s 0 = 0) := by show _ = _; unfold endV; rw [if_neg (by simp), if_neg hz]
      clear hz hs
      go_enter Try.func31, Try.ntmps31
      go_wp2_with fail
      refine HE.out.mono ?_
      rintro e w1 ⟨rfl, rfl⟩
      go_wp2_with fail
      refine HL.out.mono ?_
      rintro e w1 ⟨rfl, rfl⟩
      go_wp2
      go_ret
      exact ⟨by rw [HV.out]; rfl, rfl⟩
  · have d : (e == 0) = false := by rw [beq_eq_false_iff_ne]; exact he
    have d' : (e != 0) = true := by simp [bne, d]
    have HV : Hid (endV s e = e) := by show _ = _; unfold endV; rw [if_pos he]
    clear he hs
    go_enter Try.func31, Try.ntmps31
    go_wp2_with fail
    refine HE.out.mono ?_
    rintro e' w1 ⟨rfl, rfl⟩
    go_wp2
    go_ret
    exact ⟨by rw [HV.out]; rfl, rfl⟩
/-- Whether a number is from 0 to most. -/
def uptoM (most n : Int) : Int := if n < 0 ∨ most < n then 3 else 0
theorem upto_any (n most : Int) (w : World) :
    Calls Try.prog 47 #[.int .i64 n, .int .i64 most] w (RetS (.int .i64 (uptoM most n)) w) := by
  by_cases h0 : n < 0
  · have d := decide_eq_true h0
    have HV : Hid (uptoM most n = 3) := by show _ = _; unfold uptoM; rw [if_pos (Or.inl h0)]
    clear h0
    go_enter Try.func47, Try.ntmps47
    go_wp2
    go_ret
    exact ⟨by rw [HV.out]; rfl, rfl⟩
  · have d := decide_eq_false h0
    by_cases h1 : most < n
    · have d1 := decide_eq_true h1
      have HV : Hid (uptoM most n = 3) := by show _ = _; unfold uptoM; rw [if_pos (Or.inr h1)]
      clear h0 h1
      go_enter Try.func47, Try.ntmps47
      go_wp2
      go_ret
      exact ⟨by rw [HV.out]; rfl, rfl⟩
    · have d1 := decide_eq_false h1
      have HV : Hid (uptoM most n = 0) := by show _ = _; unfold uptoM; rw [if_neg (by omega)]
      clear h0 h1
      go_enter Try.func47, Try.ntmps47
      go_wp2
      go_ret
      exact ⟨by rw [HV.out]; rfl, rfl⟩
/-- What may be: told by a function value. -/
structure MayOk (gf : Nat) (caps : Array Value) (may : Int → ByteArray → Int) (Inv : World → Prop) : Prop where
  enter : ∀ args w, (callFunc gf args).run Try.prog w = .ok (.enter gf args) w
  calls : ∀ W, Inv W → ∀ (n : Int) (s : ByteArray), s.size ≤ 1000000 → Calls Try.prog gf (#[.int .i64 n, .string s] ++ caps) W (RetS (.int .i64 (may n s)) W)
theorem may_num : MayOk 48 #[] (fun _ _ => 0) (fun _ => True) where
  enter := fun args w => by first | rfl | exact run_callFunc_user Try.func48 | simp [go_sem, callFunc, Try.func48]
  calls := fun W _ n s _ => by
    go_enter Try.func48, Try.ntmps48
    go_wp2
    go_ret
    exact ⟨rfl, rfl⟩
theorem may_upto (b : Nat) (most : Int) : MayOk 46 #[ptr b] (fun n _ => uptoM most n) (fun W => W.cell? ⟨b, 0, none⟩ = some (.int .i64 most)) where
  enter := fun args w => by first | rfl | exact run_callFunc_user Try.func46 | simp [go_sem, callFunc, Try.func46]
  calls := fun W hc n s _ => by
    have HU := Lib.hid (upto_any n most W)
    go_enter Try.func46, Try.ntmps46
    go_wp2_with fail
    refine HU.out.mono ?_
    rintro e w1 ⟨rfl, rfl⟩
    go_wp2
    go_ret
    exact ⟨rfl, rfl⟩
/-- Whether a number may be a text's length. -/
def textM (most n : Int) (s : ByteArray) : Int := if uptoM most n = 0 then (if (s.size : Int) < n then 4 else 0) else uptoM most n
end Go.Proofs.Ytbpaongnehgodaa
