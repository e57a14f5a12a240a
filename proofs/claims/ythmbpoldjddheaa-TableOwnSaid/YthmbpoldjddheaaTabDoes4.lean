/- Tables: does: Drop. -/
import Derived.Test.YthmbpoldjddheaaTabDoes
namespace Go.Proofs.Ythmbpoldjddheaa
open Go.ChangeShapes Go.WideShapes Go.ChangeAt Go.RowKit
theorem q_kept2 {w w' : World} {B g h room n room' n' : Nat} {a : Nat → Int} {s : Nat → ByteArray} {v : Value} {b : Nat → Int} {u : Nat → ByteArray} {v2 : Value} (t : TAt w B g room n a s v) (q : QAt w B h room' n' b u v2) (k : Kept (fun k => k = g ∨ v.ownBlock = some k) w w') : QAt w' B h room' n' b u v2 :=
  q.kept k (fun e => by
    rcases e with e | e
    · exact tq_ne t q e.symm
    · exact tq_v t q e) (fun c hc e => by
    rcases e with e | e
    · exact tq_v2 t q (e ▸ hc)
    · exact tq_vv t q e hc)
theorem Bond.idle {n : Nat} {a : Nat → Int} {s : Nat → ByteArray} {b : Nat → Int} {u : Nat → ByteArray} (h : Bond n a s b u) : Bond n a s (fun t => b (past n t)) (fun t => u (past n t)) := by
  have e : ∀ i, i < n → past n i = i := fun i hi => by unfold past; rw [if_pos hi]
  refine ⟨h.rises, fun i j hij hj => ?_, fun i hi => ?_, fun j hj => ?_⟩
  · simp only [e i (by omega), e j hj]; exact h.dist i j hij hj
  · simp only [e i hi]; exact h.back i hi
  · obtain ⟨i, hi, e1, e2⟩ := h.fwd j hj
    exact ⟨i, hi, by simp only [e i hi]; exact e1, by simp only [e i hi]; exact e2⟩
set_option maxHeartbeats 4000000 in
set_option maxRecDepth 100000 in
theorem does_drop (B g h room n : Nat) (a : Nat → Int) (s : Nat → ByteArray) (v : Value) (b : Nat → Int) (u : Nat → ByteArray) (v2 : Value) (k x : Int) (t : ByteArray) (hk0 : k ≠ 0) (hk1 : k ≠ 1) (hk2 : k ≠ 2) (hn : n ≤ 900) (hr : room ≤ 9223372036854775807) (w : World) (hB : B ≤ w.heap.size) (hp : Pair w B g h room n a s v b u v2) :
    Calls Try.prog 12 #[.pointer (some ⟨g, 0, none⟩), .pointer (some ⟨h, 0, none⟩), actV k x t] w (Goes w B g h room n) := by
  have dk0 : (k == 0) = false := by rw [beq_eq_false_iff_ne]; exact hk0
  have dk1 : (k == 1) = false := by rw [beq_eq_false_iff_ne]; exact hk1
  have dk2 : (k == 2) = false := by rw [beq_eq_false_iff_ne]; exact hk2
  clear hk0 hk1 hk2
  have B1 : Below w.heap.size w (w.alloc (.cells #[.int .i64 k, .int .i64 x, .string t] 32)) := (Below.refl _ _).alloc (Nat.le_refl _) _
  have HP1 := Lib.hid (hp.under B1)
  have HFI := Lib.hid (reffind_any h room n b u x (by omega) _ HP1.out.q.at)
  have c0 : (w.alloc (.cells #[.int .i64 k, .int .i64 x, .string t] 32)).cell? ⟨w.heap.size, 0, none⟩ = some (.int .i64 k) := by rw [World.cell?_alloc_new]; rfl
  have c1 : (w.alloc (.cells #[.int .i64 k, .int .i64 x, .string t] 32)).cell? ⟨w.heap.size, 1, none⟩ = some (.int .i64 x) := by rw [World.cell?_alloc_new]; rfl
  have c2 : (w.alloc (.cells #[.int .i64 k, .int .i64 x, .string t] 32)).cell? ⟨w.heap.size, 2, none⟩ = some (.string t) := by rw [World.cell?_alloc_new]; rfl
  have hm0 : w.heap.size < (w.alloc (.cells #[.int .i64 k, .int .i64 x, .string t] 32)).heap.size := by simp
  have hB1 : B ≤ (w.alloc (.cells #[.int .i64 k, .int .i64 x, .string t] 32)).heap.size := by simp; omega
  have HBB : Hid (Below B w (w.alloc (.cells #[.int .i64 k, .int .i64 x, .string t] 32))) := B1.mono hB
  have HMG : Hid (w.heap.size ≠ g ∧ w.heap.size ≠ h) := ⟨fun e => by have := lt_of_block hp.t.here; omega, fun e => by have := lt_of_block hp.q.here; omega⟩
  have HMV : Hid (v.ownBlock ≠ some w.heap.size ∧ v2.ownBlock ≠ some w.heap.size) := ⟨fun e => by have := (World.ownsRow.lt hp.t.rows _ e).2; omega, fun e => by have := (World.ownsRow.lt hp.q.rows _ e).2; omega⟩
  have n2 : (n : Int) ≤ 900 := by omega
  have HN := Lib.hid hn
  have HR := Lib.hid hr
  clear hn hr
  unfold actV
  go_enter Try.func12, Try.ntmps12
  go_wp2_with fail
  refine HFI.out.mono ?_
  rintro e w1 ⟨r, hat, rfl, rfl⟩
  obtain ⟨m, hm⟩ : ∃ m, w.heap.size = m := ⟨_, rfl⟩
  obtain ⟨w1, hw1⟩ : ∃ w1, w.alloc (.cells #[.int .i64 k, .int .i64 x, .string t] 32) = w1 := ⟨_, rfl⟩
  rw [hw1] at HP1 HBB c0 c1 c2 hm0 hB1 ⊢
  rw [hm] at c0 c1 c2 hm0 HMG HMV ⊢
  clear hm hw1 B1 HFI hp hB
  cases hat with
  | here i hi ei hfirst =>
    have hi2 : (i : Int) < n := by omega
    have di : decide ((i : Int) < 0) = false := decide_eq_false (by omega)
    have di2 : decide (0 ≤ (i : Int)) = true := decide_eq_true (by omega)
    obtain ⟨ao2, cap2, e2, hr2⟩ := HP1.out.q.rows.view
    have q1 : w1.cell? ⟨h, 1, none⟩ = some (.slice ao2 n cap2) := by simp [World.cell?, HP1.out.q.here, e2]
    obtain ⟨bq, oq, rfl, _, hcq⟩ := hr2 (by omega)
    have q2 := (hcq i hi).2
    have HI := Lib.hid (And.intro hi ei)
    have HE2 := Lib.hid e2
    clear hcq hr2 e2 hi ei hfirst
    obtain ⟨z, hz⟩ : ∃ z, u i = z := ⟨_, rfl⟩
    rw [hz] at q2
    have HZ := Lib.hid hz
    clear hz
    go_wp2_with fail
    have HQD := Lib.hid (refdrop_any B h room n i b u v2 x (by have := HN.out; omega) (fun _ => HI.out.2) (fun j hj hji e => by
      have hd : b j = b i := by rw [e, HI.out.2]
      rcases Nat.lt_trichotomy j i with l | l | l
      · exact HP1.out.bond.dist j i l HI.out.1 hd
      · exact hji l
      · exact HP1.out.bond.dist i j l hj hd.symm) w1 hB1 HP1.out.q)
    rw [show kept i n = n - 1 from by unfold kept; rw [if_neg (by have := HI.out.1; omega)]] at HQD
    refine (HQD.out).mono ?_
    rintro e w3 ⟨v3, rfl, hq3, hk3⟩
    have HK3 : Hid (Kept (fun q => q = h ∨ v2.ownBlock = some q) w1 w3) := ⟨hk3.os, hk3.tape, hk3.output, hk3.size, fun q hq hs => hk3.block q hq (fun e => hs (Or.inl e))⟩
    have HT3 : Hid (TAt w3 B g room n a s v) := t_kept HP1.out.t HP1.out.q HK3.out
    have HQ3 := Lib.hid hq3
    have HB3 : Hid (Below B w w3) := HBB.out.trans (q_below HP1.out.q HK3.out hB1)
    have hs3 : B ≤ w3.heap.size := Nat.le_trans hB1 hk3.size
    have d1 : w3.cell? ⟨m, 1, none⟩ = some (.int .i64 x) := (World.cell?_of_block (hk3.block m hm0 (fun e => HMG.out.2 e))).trans c1
    clear hq3 hk3
    go_wp2_with fail
    have HTD := Lib.hid (drop_any B g room n a s v x (by have := HN.out; omega) w3 HT3.out)
    refine HTD.out.mono ?_
    rintro e w4 ⟨hk4, hres⟩
    obtain ⟨p, v4, hp1, hp2, rfl, hT4, _⟩ : ∃ p v', p < n ∧ a p = x ∧ e = .returned (.tuple #[.string z, .int .i64 0]) ∧ TAt w4 B g room (n - 1) (fun t => a (past p t)) (fun t => s (past p t)) v' ∧ v'.ownBlock = v.ownBlock := by
      rcases hres with ⟨p, v', hp1, hp2, he, h1, h2⟩ | ⟨hno, _⟩
      · obtain ⟨j, hj, e1, e2⟩ := HP1.out.bond.back i HI.out.1
        have : p = j := HP1.out.bond.rises.inj hp1 hj (by rw [hp2, ← e1, HI.out.2])
        exact ⟨p, v', hp1, hp2, by rw [he, this, ← e2, HZ.out], h1, h2⟩
      · exact absurd HI.out.2 (HP1.out.bond.none.1 hno i HI.out.1)
    have HRES : Hid (Pair w4 B g h room (n - 1) (fun t => a (past p t)) (fun t => s (past p t)) v4 (fun t => b (past i t)) (fun t => u (past i t)) v3) := ⟨hT4, q_kept2 HT3.out HQ3.out hk4, HP1.out.bond.drop hp1 HI.out.1 hp2 HI.out.2, by have := HP1.out.le; omega⟩
    have HB4 : Hid (Below B w w4) := HB3.out.trans (t_below HT3.out hk4 hs3)
    clear hk4 hres hT4
    go_wp2_with fail
    go_ret
    exact ⟨rfl, HB4.out, n - 1, _, _, v4, _, _, v3, by omega, HRES.out⟩
  | none hno =>
    have HNO := Lib.hid hno
    clear hno
    go_wp2_with fail
    have HQD := Lib.hid (refdrop_any B h room n n b u v2 x (by have := HN.out; omega) (fun e => by omega) (fun j hj _ => HNO.out j hj) w1 hB1 HP1.out.q)
    rw [show kept n n = n from by unfold kept; rw [if_pos (Nat.le_refl _)]] at HQD
    refine (HQD.out).mono ?_
    rintro e w3 ⟨v3, rfl, hq3, hk3⟩
    have HK3 : Hid (Kept (fun q => q = h ∨ v2.ownBlock = some q) w1 w3) := ⟨hk3.os, hk3.tape, hk3.output, hk3.size, fun q hq hs => hk3.block q hq (fun e => hs (Or.inl e))⟩
    have HT3 : Hid (TAt w3 B g room n a s v) := t_kept HP1.out.t HP1.out.q HK3.out
    have HQ3 := Lib.hid hq3
    have HB3 : Hid (Below B w w3) := HBB.out.trans (q_below HP1.out.q HK3.out hB1)
    have hs3 : B ≤ w3.heap.size := Nat.le_trans hB1 hk3.size
    have d1 : w3.cell? ⟨m, 1, none⟩ = some (.int .i64 x) := (World.cell?_of_block (hk3.block m hm0 (fun e => HMG.out.2 e))).trans c1
    clear hq3 hk3
    go_wp2_with fail
    have HTD := Lib.hid (drop_any B g room n a s v x (by have := HN.out; omega) w3 HT3.out)
    refine HTD.out.mono ?_
    rintro e w4 ⟨hk4, hres⟩
    obtain ⟨rfl, hT4⟩ : e = .returned (.tuple #[.string ⟨#[]⟩, .int .i64 8]) ∧ TAt w4 B g room n a s v := by
      rcases hres with ⟨p, v', hp1, hp2, _⟩ | ⟨_, h1, h2⟩
      · exact absurd hp2 (HP1.out.bond.none.2 HNO.out p hp1)
      · exact ⟨h1, h2⟩
    have HRES : Hid (Pair w4 B g h room n a s v (fun t => b (past n t)) (fun t => u (past n t)) v3) := ⟨hT4, q_kept2 HT3.out HQ3.out hk4, HP1.out.bond.idle, HP1.out.le⟩
    have HB4 : Hid (Below B w w4) := HB3.out.trans (t_below HT3.out hk4 hs3)
    clear hk4 hres hT4
    go_wp2_with fail
    go_ret
    exact ⟨rfl, HB4.out, n, a, s, v, _, _, v3, by omega, HRES.out⟩
end Go.Proofs.Ythmbpoldjddheaa
