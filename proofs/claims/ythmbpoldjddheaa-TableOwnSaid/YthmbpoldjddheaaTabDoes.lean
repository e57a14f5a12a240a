/- Tables: does: a call on both. -/
import Derived.Test.YthmbpoldjddheaaTabPair
namespace Go.Proofs.Ythmbpoldjddheaa
open Go.ChangeShapes Go.WideShapes Go.ChangeAt Go.RowKit
/-- Both are bound again, and what was there before them stays. -/
def Goes (w : World) (B g h room n : Nat) (e : Ending) (w' : World) : Prop :=
  e = .returned (.bool true) ∧ Below B w w' ∧ ∃ n' a s v b u v2, n' ≤ n + 1 ∧ Pair w' B g h room n' a s v b u v2
/-- What the table's Put tells, and what is there then. -/
inductive PutT (room n : Nat) (a : Nat → Int) (s : Nat → ByteArray) (x : Int) (t : ByteArray) : Int → Nat → (Nat → Int) → (Nat → ByteArray) → Prop
  | twice (i : Nat) (hi : i < n) (h : a i = x) : PutT room n a s x t 7 n a s
  | full (h : ∀ i, i < n → a i ≠ x) (hr : room = n) : PutT room n a s x t 6 n a s
  | put (p : Nat) (h : ∀ i, i < n → a i ≠ x) (hp : Place a n x p) (hr : n < room) : PutT room n a s x t 0 (n + 1) (insA a p x) (insS s p t)
theorem put_told {B g room n : Nat} {a : Nat → Int} {s : Nat → ByteArray} {v : Value} {x : Int} {t : ByteArray} {w w' : World} {e : Ending} (h : Puts B g room n a s v x t w w' e) : ∃ (c : Int) (n' : Nat) (a' : Nat → Int) (s' : Nat → ByteArray) (v' : Value), e = .returned (.int .i64 c) ∧ PutT room n a s x t c n' a' s' ∧ TAt w' B g room n' a' s' v' := by
  cases h with
  | twice i hi h ht => exact ⟨_, _, _, _, _, rfl, .twice i hi h, ht⟩
  | full h hr ht => exact ⟨_, _, _, _, _, rfl, .full h hr, ht⟩
  | put p v' h hp hr hv ht => exact ⟨_, _, _, _, _, rfl, .put p h hp hr, ht⟩
/-- Both Puts tell the same, and both are bound again. -/
theorem puts_bound {room n : Nat} {a : Nat → Int} {s : Nat → ByteArray} {b : Nat → Int} {u : Nat → ByteArray} (hb : Bond n a s b u) {x : Int} {t : ByteArray} {c c' : Int} {n' n2 : Nat} {a' b' : Nat → Int} {s' u' : Nat → ByteArray} (h : PutT room n a s x t c n' a' s') (h' : Putted room n b u x t c' n2 b' u') (hle : n ≤ room) :
    c = c' ∧ n' = n2 ∧ Bond n' a' s' b' u' ∧ n' ≤ n + 1 ∧ n' ≤ room := by
  cases h with
  | twice i hi h =>
    cases h' with
    | twice j hj h2 => exact ⟨rfl, rfl, hb, by omega, hle⟩
    | full h2 _ => exact absurd h (hb.none.2 h2 i hi)
    | put h2 _ => exact absurd h (hb.none.2 h2 i hi)
  | full h hr =>
    cases h' with
    | twice j hj h2 => exact absurd h2 (hb.none.1 h j hj)
    | full h2 _ => exact ⟨rfl, rfl, hb, by omega, hle⟩
    | put h2 hr2 => omega
  | put p h hp hr =>
    cases h' with
    | twice j hj h2 => exact absurd h2 (hb.none.1 h j hj)
    | full h2 hr2 => omega
    | put h2 hr2 => exact ⟨rfl, rfl, hb.put hp h, by omega, by omega⟩
/-- A call's kind, number and text. -/
def actV (k x : Int) (t : ByteArray) : Value := .agg #[.int .i64 k, .int .i64 x, .string t]
set_option maxHeartbeats 4000000 in
set_option maxRecDepth 100000 in
theorem does_get (B g h room n : Nat) (a : Nat → Int) (s : Nat → ByteArray) (v : Value) (b : Nat → Int) (u : Nat → ByteArray) (v2 : Value) (k x : Int) (t : ByteArray) (hk : k = 2) (hn : n ≤ 900) (hr : room ≤ 9223372036854775807) (w : World) (hB : B ≤ w.heap.size) (hp : Pair w B g h room n a s v b u v2) :
    Calls Try.prog 12 #[.pointer (some ⟨g, 0, none⟩), .pointer (some ⟨h, 0, none⟩), actV k x t] w (Goes w B g h room n) := by
  subst hk
  have B1 : Below w.heap.size w (w.alloc (.cells #[.int .i64 2, .int .i64 x, .string t] 32)) := (Below.refl _ _).alloc (Nat.le_refl _) _
  have HP1 := Lib.hid (hp.under B1)
  have HFI := Lib.hid (reffind_any h room n b u x (by omega) _ HP1.out.q.at)
  have c0 : (w.alloc (.cells #[.int .i64 2, .int .i64 x, .string t] 32)).cell? ⟨w.heap.size, 0, none⟩ = some (.int .i64 2) := by rw [World.cell?_alloc_new]; rfl
  have c1 : (w.alloc (.cells #[.int .i64 2, .int .i64 x, .string t] 32)).cell? ⟨w.heap.size, 1, none⟩ = some (.int .i64 x) := by rw [World.cell?_alloc_new]; rfl
  have c2 : (w.alloc (.cells #[.int .i64 2, .int .i64 x, .string t] 32)).cell? ⟨w.heap.size, 2, none⟩ = some (.string t) := by rw [World.cell?_alloc_new]; rfl
  have hm0 : w.heap.size < (w.alloc (.cells #[.int .i64 2, .int .i64 x, .string t] 32)).heap.size := by simp
  have hB1 : B ≤ (w.alloc (.cells #[.int .i64 2, .int .i64 x, .string t] 32)).heap.size := by simp; omega
  have HBB : Hid (Below B w (w.alloc (.cells #[.int .i64 2, .int .i64 x, .string t] 32))) := B1.mono hB
  have HMG : Hid (w.heap.size ≠ g ∧ w.heap.size ≠ h) := ⟨fun e => by have := lt_of_block hp.t.here; omega, fun e => by have := lt_of_block hp.q.here; omega⟩
  have HMV : Hid (v.ownBlock ≠ some w.heap.size ∧ v2.ownBlock ≠ some w.heap.size) := ⟨fun e => by have := (World.ownsRow.lt hp.t.rows _ e).2; omega, fun e => by have := (World.ownsRow.lt hp.q.rows _ e).2; omega⟩
  have n2 : (n : Int) ≤ 900 := by omega
  have HN := Lib.hid hn
  have HR := Lib.hid hr
  clear hn hr
  unfold actV
  go_enter Try.func12, Try.ntmps12
  go_wp2_with fail
  refine HFI.out.mono ?_
  rintro e w1 ⟨r, hat, rfl, rfl⟩
  obtain ⟨m, hm⟩ : ∃ m, w.heap.size = m := ⟨_, rfl⟩
  obtain ⟨w1, hw1⟩ : ∃ w1, w.alloc (.cells #[.int .i64 2, .int .i64 x, .string t] 32) = w1 := ⟨_, rfl⟩
  rw [hw1] at HP1 HBB c0 c1 c2 hm0 hB1 ⊢
  rw [hm] at c0 c1 c2 hm0 HMG HMV ⊢
  clear hm hw1 B1 HFI hp hB
  cases hat with
  | here i hi ei hfirst =>
    have hi2 : (i : Int) < n := by omega
    have di : decide ((i : Int) < 0) = false := decide_eq_false (by omega)
    have di2 : decide (0 ≤ (i : Int)) = true := decide_eq_true (by omega)
    obtain ⟨ao2, cap2, e2, hr2⟩ := HP1.out.q.rows.view
    have q1 : w1.cell? ⟨h, 1, none⟩ = some (.slice ao2 n cap2) := by simp [World.cell?, HP1.out.q.here, e2]
    obtain ⟨bq, oq, rfl, _, hcq⟩ := hr2 (by omega)
    have q2 := (hcq i hi).2
    have HI := Lib.hid (And.intro hi ei)
    have HE2 := Lib.hid e2
    clear hcq hr2 e2 hi ei hfirst
    obtain ⟨z, hz⟩ : ∃ z, u i = z := ⟨_, rfl⟩
    rw [hz] at q2
    have HZ := Lib.hid hz
    clear hz
    go_wp2_with fail
    have HG := Lib.hid (get_any g room n a s x (by have := HN.out; omega) w1 HP1.out.t.at)
    refine HG.out.mono ?_
    rintro e w3 ⟨h3, hres⟩
    obtain ⟨p, hp1, hp2, rfl⟩ : ∃ p, p < n ∧ a p = x ∧ e = .returned (.tuple #[.string z, .int .i64 0]) := by
      rcases hres with ⟨p, hp1, hp2, he⟩ | ⟨hno, _⟩
      · obtain ⟨j, hj, e1, e2⟩ := HP1.out.bond.back i HI.out.1
        have : p = j := HP1.out.bond.rises.inj hp1 hj (by rw [hp2, ← e1, HI.out.2])
        exact ⟨p, hp1, hp2, by rw [he, this, ← e2, HZ.out]⟩
      · exact absurd HI.out.2 (HP1.out.bond.none.1 hno i HI.out.1)
    have HP3 := Lib.hid (HP1.out.under h3)
    have HB3 : Hid (Below B w w3) := HBB.out.trans (h3.mono hB1)
    clear h3 hres
    go_wp2_with fail
    go_ret
    exact ⟨rfl, HB3.out, n, a, s, v, b, u, v2, by omega, HP3.out⟩
  | none hno =>
    have HNO := Lib.hid hno
    clear hno
    go_wp2_with fail
    have HG := Lib.hid (get_any g room n a s x (by have := HN.out; omega) w1 HP1.out.t.at)
    refine HG.out.mono ?_
    rintro e w3 ⟨h3, hres⟩
    obtain rfl : e = .returned (.tuple #[.string ⟨#[]⟩, .int .i64 8]) := by
      rcases hres with ⟨p, hp1, hp2, he⟩ | ⟨_, he⟩
      · exact absurd hp2 (HP1.out.bond.none.2 HNO.out p hp1)
      · exact he
    have HP3 := Lib.hid (HP1.out.under h3)
    have HB3 : Hid (Below B w w3) := HBB.out.trans (h3.mono hB1)
    clear h3 hres
    go_wp2_with fail
    go_ret
    exact ⟨rfl, HB3.out, n, a, s, v, b, u, v2, by omega, HP3.out⟩
end Go.Proofs.Ythmbpoldjddheaa
