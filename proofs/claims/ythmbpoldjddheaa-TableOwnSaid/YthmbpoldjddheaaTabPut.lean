/- The document's table: Put. -/
import Derived.Test.YthmbpoldjddheaaTabRef
import Derived.Test.YthmbpoldjddheaaTabOwn
namespace Go.Proofs.Ythmbpoldjddheaa
open Go.ChangeShapes Go.WideShapes Go.ChangeAt Go.RowKit
/-- All is as it was, but for blocks of S and new ones. -/
structure Kept (S : Nat → Prop) (w w' : World) : Prop where
  os : w'.os = w.os
  tape : w'.tape = w.tape
  output : w'.output = w.output
  size : w.heap.size ≤ w'.heap.size
  block : ∀ k, k < w.heap.size → ¬ S k → w'.heap[k]? = w.heap[k]?
theorem Kept.below {S : Nat → Prop} {w w' : World} {B : Nat} (h : Kept S w w') (hB : B ≤ w.heap.size) (hS : ∀ k, k < B → ¬ S k) : Below B w w' := ⟨h.os, h.tape, h.output, h.size, fun k hk => h.block k (by omega) (hS k hk)⟩
theorem Kept.of_below {S : Nat → Prop} {w w' : World} (h : Below w.heap.size w w') : Kept S w w' := ⟨h.os, h.tape, h.output, h.size, fun k hk _ => h.block k hk⟩
theorem Kept.trans {S : Nat → Prop} {u v w : World} (h : Kept S u v) (k : Kept S v w) : Kept S u w := ⟨k.os.trans h.os, k.tape.trans h.tape, k.output.trans h.output, Nat.le_trans h.size k.size, fun i hi hs => (k.block i (Nat.lt_of_lt_of_le hi h.size) hs).trans (h.block i hi hs)⟩
theorem Kept.of_grown {S : Nat → Prop} {w w' : World} {row : Option Nat} (h : w.grownBy w' row) (hr : ∀ k, row = some k → S k) : Kept S w w' := ⟨h.os, h.tape, h.output, h.size, fun k hk hs => h.block k hk (fun e => hs (hr k e.symm))⟩
theorem setCell_grown (w : World) (p : Addr) (u : Value) : w.grownBy (w.setCell p u) (some p.block) := ⟨rfl, rfl, rfl, by simp [World.setCell], fun k _ hne => Below.heap_setCell _ _ _ _ (fun e => hne (by rw [e]))⟩
/-- A document's table of one's own lies at g, its rows at v. -/
structure QAt (w : World) (B g room n : Nat) (a : Nat → Int) (s : Nat → ByteArray) (v : Value) : Prop where
  lo : B ≤ g
  here : w.heap[g]? = some (.cells #[.int .i64 (room : Nat), v] 29 (0, 0))
  rows : OwnsR w B 37 v n a s
  apart : v.ownBlock ≠ some g
theorem QAt.at {w : World} {B g room n : Nat} {a : Nat → Int} {s : Nat → ByteArray} {v : Value} (h : QAt w B g room n a s v) : RTabAt w g room n a s := by
  obtain ⟨ao, cap, rfl, hr⟩ := h.rows.view
  exact ⟨lt_of_block h.here, by simp [World.cell?, h.here], ⟨ao, cap, by simp [World.cell?, h.here], hr⟩⟩
theorem infoQ : (Try.prog.info? 37).map (fun i => (i.zero, i.size, i.bytes)) = some (some (.agg #[.int .i64 0, .string ⟨#[]⟩]), 2, 24) := by kernel_rfl
theorem QAt.drewN {w : World} {B g room n : Nat} {a : Nat → Int} {s : Nat → ByteArray} {v : Value} (h : QAt w B g room n a s v) (q : Nat) : QAt (w.drewN q) B g room n a s v := ⟨h.lo, h.here, h.rows, h.apart⟩
theorem rowCells_put (a : Nat → Int) (s : Nat → ByteArray) (n : Nat) (x : Int) (t : ByteArray) : rowCells a s n ++ [.int .i64 x, .string t] = rowCells (fun i => if i = n then x else a i) (fun i => if i = n then t else s i) (n + 1) := by
  rw [rowCells, if_pos rfl, if_pos rfl]
  congr 1
  exact rowCells_congr n fun i hi => ⟨(if_neg (by omega)).symm, (if_neg (by omega)).symm⟩
/-- What Put tells, and what is there then. -/
inductive Putted (room n : Nat) (a : Nat → Int) (s : Nat → ByteArray) (x : Int) (t : ByteArray) : Int → Nat → (Nat → Int) → (Nat → ByteArray) → Prop
  | twice (i : Nat) (hi : i < n) (h : a i = x) : Putted room n a s x t 7 n a s
  | full (h : ∀ i, i < n → a i ≠ x) (hf : room ≤ n) : Putted room n a s x t 6 n a s
  | put (h : ∀ i, i < n → a i ≠ x) (hf : n < room) : Putted room n a s x t 0 (n + 1) (fun i => if i = n then x else a i) (fun i => if i = n then t else s i)
set_option maxRecDepth 100000 in
set_option maxHeartbeats 4000000 in
theorem refput_any (B g room n : Nat) (a : Nat → Int) (s : Nat → ByteArray) (v : Value) (x : Int) (t : ByteArray) (hn : n ≤ 1000) (w : World) (hB : B ≤ w.heap.size) (h : QAt w B g room n a s v) :
    Calls Try.prog 49 #[.pointer (some ⟨g, 0, none⟩), .int .i64 x, .string t] w (fun e w' => ∃ (c : Int) (n' : Nat) (a' : Nat → Int) (s' : Nat → ByteArray) (v' : Value), Putted room n a s x t c n' a' s' ∧ e = .returned (.int .i64 c) ∧ QAt w' B g room n' a' s' v' ∧ Kept (fun k => k = g ∨ v.ownBlock = some k) w w') := by
  have HF := Lib.hid (reffind_any g room n a s x (by omega) w h.at)
  obtain ⟨ao, cap, rfl, hr⟩ := h.rows.view
  have HQ := Lib.hid h
  obtain ⟨i0, hinf, hz0, hz1, hz2⟩ := info_parts infoQ
  have n2 : (n : Int) ≤ 1000 := by omega
  have HN := Lib.hid hn
  have HBW := Lib.hid hB
  have hg : g < w.heap.size := lt_of_block h.here
  have k0 : w.cell? ⟨g, 0, none⟩ = some (.int .i64 (room : Nat)) := by simp [World.cell?, h.here]
  have k1 : w.cell? ⟨g, 1, none⟩ = some (.slice ao n cap) := by simp [World.cell?, h.here]
  have kf : w.frozen? ⟨g, 1, none⟩ = false := by simp [World.frozen?, h.here]
  clear hn hB h hr
  go_enter Try.func49, Try.ntmps49
  go_wp2_with fail
  refine HF.out.mono ?_
  rintro e w1 ⟨r, hat, rfl, rfl⟩
  cases hat with
  | here i hi e first =>
    have HI := Lib.hid hi
    have HE := Lib.hid e
    clear first hi e
    have g1 : decide (0 ≤ (i : Int)) = true := decide_eq_true (by omega)
    go_wp2_with fail
    go_ret
    exact ⟨7, n, a, s, _, .twice i HI.out HE.out, rfl, HQ.out, Kept.of_below (Below.refl _ _)⟩
  | none hno =>
    have HNO := Lib.hid hno
    clear hno
    go_wp2_with fail
    by_cases hf : room ≤ n
    · have g1 : decide ((room : Int) ≤ (n : Int)) = true := decide_eq_true (by omega)
      have g2 : decide (room ≤ n) = true := decide_eq_true hf
      have HFU := Lib.hid hf
      clear hf
      go_quiet (fail)
      go_wp2_with fail
      go_ret
      exact ⟨6, n, a, s, _, .full HNO.out HFU.out, rfl, HQ.out.drewN _, Kept.of_below (below_drewN (Below.refl _ _) _)⟩
    · have g1 : decide ((room : Int) ≤ (n : Int)) = false := decide_eq_false (by omega)
      have g2 : decide (room ≤ n) = false := decide_eq_false hf
      have HFU := Lib.hid hf
      clear hf
      go_quiet (fail)
      have hrw : (w.drewN nq).ownsRow B 37 2 (.slice ao n cap) n (rowCells a s n) := HQ.out.rows
      go_wp2_with (at_builtin; refine wpList_append_row _ rfl _ _ 27 rfl B 37 i0 (.agg #[.int .i64 0, .string ⟨#[]⟩]) 24 Try.underlying27 hinf hz0 hz1 hz2 rfl _ n _ rfl (hrw.alloc _) w.heap.size 1 (.int .i64 x) (.string t) rfl ?a1 ?a2 rfl rfl ?a3 ?a4 ?a5 ?_)
      case a1 =>
        show ((w.drewN nq).alloc _).cell? ⟨(w.drewN nq).heap.size, 0, none⟩ = _
        rw [World.cell?_alloc_new]; rfl
      case a2 =>
        show ((w.drewN nq).alloc _).cell? ⟨(w.drewN nq).heap.size, 1, none⟩ = _
        rw [World.cell?_alloc_new]; rfl
      try (case a3 => unfold maxLen; omega)
      try (case a4 => omega)
      try (case a5 => have := HBW.out; simp; omega)
      intro v4 w4 hown4 hgrow4 hnear4
      rw [rowCells_put] at hown4
      have HO4 : Hid (OwnsR w4 B 37 v4 (n + 1) (fun i => if i = n then x else a i) (fun i => if i = n then t else s i)) := hown4
      obtain ⟨a4, c4, rfl, _⟩ := HO4.out.view
      have hb4 : w4.heap[g]? = some (.cells #[.int .i64 (room : Nat), .slice ao n cap] 29 (0, 0)) := by
        rw [hgrow4.block g (by simp; omega) (fun e => HQ.out.apart e.symm), Below.heap_alloc _ _ _ (by exact hg)]
        exact HQ.out.here
      have j0 : w4.cell? ⟨g, 0, none⟩ = some (.int .i64 (room : Nat)) := by simp [World.cell?, hb4]
      have j1 : w4.cell? ⟨g, 1, none⟩ = some (.slice ao n cap) := by simp [World.cell?, hb4]
      have jf : w4.frozen? ⟨g, 1, none⟩ = false := by simp [World.frozen?, hb4]
      have HG4 := Lib.hid hgrow4
      have HN4 := Lib.hid hnear4
      have HB4 := Lib.hid hb4
      clear hown4 hgrow4 hnear4 hb4 hrw k0 k1 kf
      go_wp2_with fail
      go_ret
      have hne : (Value.slice a4 (n + 1) c4).ownBlock ≠ some g := fun e => by
        rcases HN4.out g e with h | h
        · exact HQ.out.apart h
        · have : ((w.drewN nq).alloc (.cells #[.int .i64 x, .string t] 37)).heap.size = w.heap.size + 1 := World.size_alloc _ _
          omega
      refine ⟨0, n + 1, _, _, .slice a4 (n + 1) c4, .put HNO.out (by have := HFU.out; omega), rfl, ⟨HQ.out.lo, ?_, World.ownsRow.kept HO4.out (setCell_grown w4 ⟨g, 1, none⟩ _) (Or.inr hne), hne⟩, ?_⟩
      · simp only [World.setCell, Array.getElem?_modify]
        rw [if_pos trivial, HB4.out]
        rfl
      · have e1 : Kept (fun k => k = g ∨ (Value.slice ao n cap).ownBlock = some k) w ((w.drewN nq).alloc (.cells #[.int .i64 x, .string t] 37)) := Kept.of_below ((below_drewN (Below.refl _ _) nq).alloc (Nat.le_refl _) _)
        exact (e1.trans (Kept.of_grown HG4.out fun k hk => Or.inr hk)).trans (Kept.of_grown (setCell_grown w4 ⟨g, 1, none⟩ _) fun k hk => Or.inl (by injection hk with hk; exact hk.symm))
end Go.Proofs.Ythmbpoldjddheaa
