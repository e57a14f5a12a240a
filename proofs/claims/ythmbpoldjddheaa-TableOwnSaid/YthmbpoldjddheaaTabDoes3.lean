/- Tables: does: Set. -/
import Derived.Test.YthmbpoldjddheaaTabDoes
namespace Go.Proofs.Ythmbpoldjddheaa
open Go.ChangeShapes Go.WideShapes Go.ChangeAt Go.RowKit
set_option maxHeartbeats 4000000 in
set_option maxRecDepth 100000 in
theorem does_set (B g h room n : Nat) (a : Nat → Int) (s : Nat → ByteArray) (v : Value) (b : Nat → Int) (u : Nat → ByteArray) (v2 : Value) (k x : Int) (t : ByteArray) (hk : k = 1) (hn : n ≤ 900) (hr : room ≤ 9223372036854775807) (w : World) (hB : B ≤ w.heap.size) (hp : Pair w B g h room n a s v b u v2) :
    Calls Try.prog 12 #[.pointer (some ⟨g, 0, none⟩), .pointer (some ⟨h, 0, none⟩), actV k x t] w (Goes w B g h room n) := by
  subst hk
  have B1 : Below w.heap.size w (w.alloc (.cells #[.int .i64 1, .int .i64 x, .string t] 32)) := (Below.refl _ _).alloc (Nat.le_refl _) _
  have HP1 := Lib.hid (hp.under B1)
  have HFI := Lib.hid (reffind_any h room n b u x (by omega) _ HP1.out.q.at)
  have c0 : (w.alloc (.cells #[.int .i64 1, .int .i64 x, .string t] 32)).cell? ⟨w.heap.size, 0, none⟩ = some (.int .i64 1) := by rw [World.cell?_alloc_new]; rfl
  have c1 : (w.alloc (.cells #[.int .i64 1, .int .i64 x, .string t] 32)).cell? ⟨w.heap.size, 1, none⟩ = some (.int .i64 x) := by rw [World.cell?_alloc_new]; rfl
  have c2 : (w.alloc (.cells #[.int .i64 1, .int .i64 x, .string t] 32)).cell? ⟨w.heap.size, 2, none⟩ = some (.string t) := by rw [World.cell?_alloc_new]; rfl
  have hm0 : w.heap.size < (w.alloc (.cells #[.int .i64 1, .int .i64 x, .string t] 32)).heap.size := by simp
  have hB1 : B ≤ (w.alloc (.cells #[.int .i64 1, .int .i64 x, .string t] 32)).heap.size := by simp; omega
  have HBB : Hid (Below B w (w.alloc (.cells #[.int .i64 1, .int .i64 x, .string t] 32))) := B1.mono hB
  have HMG : Hid (w.heap.size ≠ g ∧ w.heap.size ≠ h) := ⟨fun e => by have := lt_of_block hp.t.here; omega, fun e => by have := lt_of_block hp.q.here; omega⟩
  have HMV : Hid (v.ownBlock ≠ some w.heap.size ∧ v2.ownBlock ≠ some w.heap.size) := ⟨fun e => by have := (World.ownsRow.lt hp.t.rows _ e).2; omega, fun e => by have := (World.ownsRow.lt hp.q.rows _ e).2; omega⟩
  have n2 : (n : Int) ≤ 900 := by omega
  have HN := Lib.hid hn
  have HR := Lib.hid hr
  clear hn hr
  unfold actV
  go_enter Try.func12, Try.ntmps12
  go_wp2_with fail
  refine HFI.out.mono ?_
  rintro e w1 ⟨r, hat, rfl, rfl⟩
  obtain ⟨m, hm⟩ : ∃ m, w.heap.size = m := ⟨_, rfl⟩
  obtain ⟨w1, hw1⟩ : ∃ w1, w.alloc (.cells #[.int .i64 1, .int .i64 x, .string t] 32) = w1 := ⟨_, rfl⟩
  rw [hw1] at HP1 HBB c0 c1 c2 hm0 hB1 ⊢
  rw [hm] at c0 c1 c2 hm0 HMG HMV ⊢
  clear hm hw1 B1 HFI hp hB
  cases hat with
  | here i hi ei hfirst =>
    have hi2 : (i : Int) < n := by omega
    have di : decide ((i : Int) < 0) = false := decide_eq_false (by omega)
    have di2 : decide (0 ≤ (i : Int)) = true := decide_eq_true (by omega)
    obtain ⟨ao2, cap2, e2, hr2⟩ := HP1.out.q.rows.view
    have q1 : w1.cell? ⟨h, 1, none⟩ = some (.slice ao2 n cap2) := by simp [World.cell?, HP1.out.q.here, e2]
    obtain ⟨bq, oq, rfl, _, hcq⟩ := hr2 (by omega)
    have q2 := (hcq i hi).2
    have HI := Lib.hid (And.intro hi ei)
    have HE2 := Lib.hid e2
    clear hcq hr2 e2 hi ei hfirst
    obtain ⟨z, hz⟩ : ∃ z, u i = z := ⟨_, rfl⟩
    rw [hz] at q2
    have HZ := Lib.hid hz
    clear hz
    go_wp2_with fail
    have hoff : oq = 0 := by
      rcases HP1.out.q.rows.2 with ⟨e, _⟩ | ⟨g', c', cur', e, _⟩
      · rw [HE2.out] at e; cases e
      · rw [HE2.out] at e
        injection e with e1 _ _
        injection e1 with e1
        injection e1 with _ e2
    subst hoff
    have hrow := HP1.out.q.rows
    rw [HE2.out] at hrow
    have jf : w1.frozen? ⟨bq, i * 2 + 1, none⟩ = false := World.ownsRow.frozenAt hrow _
    rw [Nat.zero_add] at q2
    obtain ⟨r1, r2⟩ := World.ownsRow.stored hrow (i * 2 + 1) (.string t)
    rw [rowCells_set b u i t n HI.out.1] at r1
    have hbh : h ≠ bq := fun e => HP1.out.q.apart (by rw [HE2.out, e]; rfl)
    have HQ2 : Hid (QAt (w1.setCell ⟨bq, i * 2 + 1, none⟩ (.string t)) B h room n b (fun j => if j = i then t else u j) v2) := by
      refine ⟨HP1.out.q.lo, ?_, ?_, HP1.out.q.apart⟩
      · rw [Below.heap_setCell _ _ _ _ hbh]; exact HP1.out.q.here
      · rw [HE2.out]; exact r1
    have HK2 : Hid (Kept (fun q => q = h ∨ v2.ownBlock = some q) w1 (w1.setCell ⟨bq, i * 2 + 1, none⟩ (.string t))) := Kept.of_grown r2 fun q hq => Or.inr (by rw [HE2.out]; exact hq)
    have HT2 : Hid (TAt (w1.setCell ⟨bq, i * 2 + 1, none⟩ (.string t)) B g room n a s v) := t_kept HP1.out.t HP1.out.q HK2.out
    have HB2 : Hid (Below B w (w1.setCell ⟨bq, i * 2 + 1, none⟩ (.string t))) := HBB.out.trans (q_below HP1.out.q HK2.out hB1)
    have hs2 : B ≤ (w1.setCell ⟨bq, i * 2 + 1, none⟩ (.string t)).heap.size := by simp [World.setCell]; exact hB1
    have hmq : m ≠ bq := fun e => HMV.out.2 (by rw [HE2.out, e]; rfl)
    have HSET := Lib.hid (fun W hW => set_any B g room n a s v x t (by have := HN.out; omega) W hW)
    clear r1 r2 hrow hbh
    go_region
    go_wp2_with fail
    (try generalize hW : World.drew (World.setCell w1 ⟨bq, i * 2 + 1, none⟩ (.string t)) = W)
    have HT3 : Hid (TAt W B g room n a s v) := by rw [← hW]; exact HT2.out.under (Below.refl _ _).drew
    have HQ3 : Hid (QAt W B h room n b (fun j => if j = i then t else u j) v2) := by rw [← hW]; exact HQ2.out.under (Below.refl _ _).drew
    have HB3 : Hid (Below B w W) := by rw [← hW]; exact HB2.out.drew
    have HS3 : Hid (B ≤ W.heap.size) := by rw [← hW]; exact hs2
    clear hW HT2 HQ2 HB2 HK2 hs2
    refine (HSET.out _ HT3.out).mono ?_
    rintro e w4 ⟨hk4, hres⟩
    obtain ⟨p, hp1, hp2, rfl, hT4⟩ : ∃ p, p < n ∧ a p = x ∧ e = .returned (.int .i64 0) ∧ TAt w4 B g room n a (fun i => if i = p then t else s i) v := by
      rcases hres with h | ⟨hno, _⟩
      · exact h
      · exact absurd HI.out.2 (HP1.out.bond.none.1 hno i HI.out.1)
    have HRES : Hid (Pair w4 B g h room n a (fun i => if i = p then t else s i) v b (fun j => if j = i then t else u j) v2) := ⟨hT4, q_kept HT3.out HQ3.out hk4, HP1.out.bond.set hp1 HI.out.1 hp2 HI.out.2, HP1.out.le⟩
    have HB4 : Hid (Below B w w4) := HB3.out.trans (t_below HT3.out hk4 HS3.out)
    clear hk4 hres hT4
    go_wp2_with fail
    go_ret
    exact ⟨rfl, HB4.out, n, a, _, v, b, _, v2, by omega, HRES.out⟩
  | none hno =>
    have HNO := Lib.hid hno
    clear hno
    go_wp2_with fail
    have HSET := Lib.hid (fun W hW => set_any B g room n a s v x t (by have := HN.out; omega) W hW)
    refine (HSET.out _ HP1.out.t).mono ?_
    rintro e w4 ⟨hk4, hres⟩
    obtain ⟨rfl, hT4⟩ : e = .returned (.int .i64 8) ∧ TAt w4 B g room n a s v := by
      rcases hres with ⟨p, hp1, hp2, _⟩ | ⟨_, h1, h2⟩
      · exact absurd hp2 (HP1.out.bond.none.2 HNO.out p hp1)
      · exact ⟨h1, h2⟩
    have HRES : Hid (Pair w4 B g h room n a s v b u v2) := ⟨hT4, q_kept HP1.out.t HP1.out.q hk4, HP1.out.bond, HP1.out.le⟩
    have HB4 : Hid (Below B w w4) := HBB.out.trans (t_below HP1.out.t hk4 hB1)
    clear hk4 hres hT4
    go_wp2_with fail
    go_ret
    exact ⟨rfl, HB4.out, n, a, s, v, b, u, v2, by omega, HRES.out⟩
end Go.Proofs.Ythmbpoldjddheaa
