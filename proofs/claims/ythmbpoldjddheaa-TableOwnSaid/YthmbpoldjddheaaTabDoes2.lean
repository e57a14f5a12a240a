/- Tables: does: Put. -/
import Derived.Test.YthmbpoldjddheaaTabDoes
namespace Go.Proofs.Ythmbpoldjddheaa
open Go.ChangeShapes Go.WideShapes Go.ChangeAt Go.RowKit
set_option maxHeartbeats 4000000 in
set_option maxRecDepth 100000 in
theorem does_put (B g h room n : Nat) (a : Nat → Int) (s : Nat → ByteArray) (v : Value) (b : Nat → Int) (u : Nat → ByteArray) (v2 : Value) (k x : Int) (t : ByteArray) (hk : k = 0) (hn : n ≤ 900) (hr : room ≤ 9223372036854775807) (w : World) (hB : B ≤ w.heap.size) (hp : Pair w B g h room n a s v b u v2) :
    Calls Try.prog 12 #[.pointer (some ⟨g, 0, none⟩), .pointer (some ⟨h, 0, none⟩), actV k x t] w (Goes w B g h room n) := by
  subst hk
  have B1 : Below w.heap.size w (w.alloc (.cells #[.int .i64 0, .int .i64 x, .string t] 32)) := (Below.refl _ _).alloc (Nat.le_refl _) _
  have HP1 := Lib.hid (hp.under B1)
  have HFI := Lib.hid (reffind_any h room n b u x (by omega) _ HP1.out.q.at)
  have c0 : (w.alloc (.cells #[.int .i64 0, .int .i64 x, .string t] 32)).cell? ⟨w.heap.size, 0, none⟩ = some (.int .i64 0) := by rw [World.cell?_alloc_new]; rfl
  have c1 : (w.alloc (.cells #[.int .i64 0, .int .i64 x, .string t] 32)).cell? ⟨w.heap.size, 1, none⟩ = some (.int .i64 x) := by rw [World.cell?_alloc_new]; rfl
  have c2 : (w.alloc (.cells #[.int .i64 0, .int .i64 x, .string t] 32)).cell? ⟨w.heap.size, 2, none⟩ = some (.string t) := by rw [World.cell?_alloc_new]; rfl
  have hm0 : w.heap.size < (w.alloc (.cells #[.int .i64 0, .int .i64 x, .string t] 32)).heap.size := by simp
  have hB1 : B ≤ (w.alloc (.cells #[.int .i64 0, .int .i64 x, .string t] 32)).heap.size := by simp; omega
  have HBB : Hid (Below B w (w.alloc (.cells #[.int .i64 0, .int .i64 x, .string t] 32))) := B1.mono hB
  have HMG : Hid (w.heap.size ≠ g ∧ w.heap.size ≠ h) := ⟨fun e => by have := lt_of_block hp.t.here; omega, fun e => by have := lt_of_block hp.q.here; omega⟩
  have HMV : Hid (v.ownBlock ≠ some w.heap.size ∧ v2.ownBlock ≠ some w.heap.size) := ⟨fun e => by have := (World.ownsRow.lt hp.t.rows _ e).2; omega, fun e => by have := (World.ownsRow.lt hp.q.rows _ e).2; omega⟩
  have n2 : (n : Int) ≤ 900 := by omega
  have HN := Lib.hid hn
  have HR := Lib.hid hr
  clear hn hr
  unfold actV
  go_enter Try.func12, Try.ntmps12
  go_wp2_with fail
  refine HFI.out.mono ?_
  rintro e w1 ⟨r, hat, rfl, rfl⟩
  obtain ⟨m, hm⟩ : ∃ m, w.heap.size = m := ⟨_, rfl⟩
  obtain ⟨w1, hw1⟩ : ∃ w1, w.alloc (.cells #[.int .i64 0, .int .i64 x, .string t] 32) = w1 := ⟨_, rfl⟩
  rw [hw1] at HP1 HBB c0 c1 c2 hm0 hB1 ⊢
  rw [hm] at c0 c1 c2 hm0 HMG HMV ⊢
  clear hm hw1 B1 HFI hp hB
  cases hat with
  | here i hi ei hfirst =>
    have hi2 : (i : Int) < n := by omega
    have di : decide ((i : Int) < 0) = false := decide_eq_false (by omega)
    have di2 : decide (0 ≤ (i : Int)) = true := decide_eq_true (by omega)
    obtain ⟨ao2, cap2, e2, hr2⟩ := HP1.out.q.rows.view
    have q1 : w1.cell? ⟨h, 1, none⟩ = some (.slice ao2 n cap2) := by simp [World.cell?, HP1.out.q.here, e2]
    obtain ⟨bq, oq, rfl, _, hcq⟩ := hr2 (by omega)
    have q2 := (hcq i hi).2
    have HI := Lib.hid (And.intro hi ei)
    have HE2 := Lib.hid e2
    clear hcq hr2 e2 hi ei hfirst
    obtain ⟨z, hz⟩ : ∃ z, u i = z := ⟨_, rfl⟩
    rw [hz] at q2
    have HZ := Lib.hid hz
    clear hz
    go_wp2_with fail
    have HPT := Lib.hid (fun W hB hW => put_any B g room n a s v x t (by have := HN.out; omega) HR.out HP1.out.le W hW hB)
    have HQP := Lib.hid (fun W hB hW => refput_any B h room n b u v2 x t (by have := HN.out; omega) W hB hW)
    go_region_held3 (fun w' => w'.cell? ⟨m, 1, none⟩ = some (.int .i64 x) ∧ w'.cell? ⟨m, 2, none⟩ = some (.string t)) (go_keep) (first | (go_at_call 19; refine (HPT.out _ (by first | omega | (simp; omega)) (by first | exact HP1.out.t | exact HP1.out.t.under (by go_grown))).mono ?_; rintro e w3 ⟨hk3, hp3⟩; obtain ⟨cc, n3, a3, s3, v3, rfl, ht3, hT3⟩ := put_told hp3; (have HT3 := Lib.hid hT3); (have HPT3 := Lib.hid ht3); (have HK3 : Hid (Kept (fun q => q = g ∨ v.ownBlock = some q) w1 w3) := (Kept.of_below (by go_grown)).trans hk3); (have HQ3 : Hid (QAt w3 B h room n b u v2) := (q_kept HP1.out.t HP1.out.q HK3.out)); (have hs3 := HK3.out.size); (have d1 : w3.cell? ⟨m, 1, none⟩ = some (.int .i64 x) := (World.cell?_of_block (HK3.out.block m hm0 (fun e => by rcases e with e | e; exact HMG.out.1 e; exact HMV.out.1 e))).trans c1); (have d2 : w3.cell? ⟨m, 2, none⟩ = some (.string t) := (World.cell?_of_block (HK3.out.block m hm0 (fun e => by rcases e with e | e; exact HMG.out.1 e; exact HMV.out.1 e))).trans c2); clear hk3 hp3 ht3 hT3) | (go_at_call 49; refine (HQP.out _ (by first | omega | (simp; omega)) (by first | exact HQ3.out | exact HQ3.out.under (by go_grown))).mono ?_; rintro e w4 ⟨c4, n4, b4, u4, v4, hp4, rfl, hq4, hk4⟩; (have HQ4 := Lib.hid hq4); (have HP4 := Lib.hid hp4); (have HK4 : Hid (Kept (fun q => q = h ∨ v2.ownBlock = some q) w3 w4) := (Kept.of_below (by go_grown)).trans hk4); (have hs4 := HK4.out.size); (have d3 : w4.cell? ⟨m, 1, none⟩ = some (.int .i64 x) := (World.cell?_of_block (HK4.out.block m (by omega) (fun e => by rcases e with e | e; exact HMG.out.2 e; exact HMV.out.2 e))).trans d1); (have d4 : w4.cell? ⟨m, 2, none⟩ = some (.string t) := (World.cell?_of_block (HK4.out.block m (by omega) (fun e => by rcases e with e | e; exact HMG.out.2 e; exact HMV.out.2 e))).trans d2); clear hp4 hq4 hk4))
    obtain ⟨rfl, rfl, hbd, hle1, hle2⟩ := puts_bound HP1.out.bond HPT3.out HP4.out HP1.out.le
    have HT4 := t_kept HT3.out HQ3.out HK4.out
    have HRES : Hid (Pair w4 B g h room n3 a3 s3 v3 b4 u4 v4) := ⟨HT4, HQ4.out, hbd, hle2⟩
    have HBE : Hid (Below B w w4) := (HBB.out.trans (t_below HP1.out.t HK3.out hB1)).trans (q_below HQ3.out HK4.out (by omega))
    have HL1 := Lib.hid hle1
    clear hbd hle1 hle2 HT4
    go_wp2_with fail
    go_ret
    exact ⟨by show Ending.returned (Value.bool (cc == cc)) = _; rw [beq_self_eq_true], by have hh := HBE.out; first | exact hh | exact hh.drew, n3, a3, s3, v3, b4, u4, v4, HL1.out, by have hh := HRES.out; first | exact hh | exact hh.under (by go_grown)⟩
  | none hno =>
    have HNO := Lib.hid hno
    clear hno
    go_wp2_with fail
    have HPT := Lib.hid (fun W hB hW => put_any B g room n a s v x t (by have := HN.out; omega) HR.out HP1.out.le W hW hB)
    have HQP := Lib.hid (fun W hB hW => refput_any B h room n b u v2 x t (by have := HN.out; omega) W hB hW)
    go_region_held3 (fun w' => w'.cell? ⟨m, 1, none⟩ = some (.int .i64 x) ∧ w'.cell? ⟨m, 2, none⟩ = some (.string t)) (go_keep) (first | (go_at_call 19; refine (HPT.out _ (by first | omega | (simp; omega)) (by first | exact HP1.out.t | exact HP1.out.t.under (by go_grown))).mono ?_; rintro e w3 ⟨hk3, hp3⟩; obtain ⟨cc, n3, a3, s3, v3, rfl, ht3, hT3⟩ := put_told hp3; (have HT3 := Lib.hid hT3); (have HPT3 := Lib.hid ht3); (have HK3 : Hid (Kept (fun q => q = g ∨ v.ownBlock = some q) w1 w3) := (Kept.of_below (by go_grown)).trans hk3); (have HQ3 : Hid (QAt w3 B h room n b u v2) := (q_kept HP1.out.t HP1.out.q HK3.out)); (have hs3 := HK3.out.size); (have d1 : w3.cell? ⟨m, 1, none⟩ = some (.int .i64 x) := (World.cell?_of_block (HK3.out.block m hm0 (fun e => by rcases e with e | e; exact HMG.out.1 e; exact HMV.out.1 e))).trans c1); (have d2 : w3.cell? ⟨m, 2, none⟩ = some (.string t) := (World.cell?_of_block (HK3.out.block m hm0 (fun e => by rcases e with e | e; exact HMG.out.1 e; exact HMV.out.1 e))).trans c2); clear hk3 hp3 ht3 hT3) | (go_at_call 49; refine (HQP.out _ (by first | omega | (simp; omega)) (by first | exact HQ3.out | exact HQ3.out.under (by go_grown))).mono ?_; rintro e w4 ⟨c4, n4, b4, u4, v4, hp4, rfl, hq4, hk4⟩; (have HQ4 := Lib.hid hq4); (have HP4 := Lib.hid hp4); (have HK4 : Hid (Kept (fun q => q = h ∨ v2.ownBlock = some q) w3 w4) := (Kept.of_below (by go_grown)).trans hk4); (have hs4 := HK4.out.size); (have d3 : w4.cell? ⟨m, 1, none⟩ = some (.int .i64 x) := (World.cell?_of_block (HK4.out.block m (by omega) (fun e => by rcases e with e | e; exact HMG.out.2 e; exact HMV.out.2 e))).trans d1); (have d4 : w4.cell? ⟨m, 2, none⟩ = some (.string t) := (World.cell?_of_block (HK4.out.block m (by omega) (fun e => by rcases e with e | e; exact HMG.out.2 e; exact HMV.out.2 e))).trans d2); clear hp4 hq4 hk4))
    obtain ⟨rfl, rfl, hbd, hle1, hle2⟩ := puts_bound HP1.out.bond HPT3.out HP4.out HP1.out.le
    have HT4 := t_kept HT3.out HQ3.out HK4.out
    have HRES : Hid (Pair w4 B g h room n3 a3 s3 v3 b4 u4 v4) := ⟨HT4, HQ4.out, hbd, hle2⟩
    have HBE : Hid (Below B w w4) := (HBB.out.trans (t_below HP1.out.t HK3.out hB1)).trans (q_below HQ3.out HK4.out (by omega))
    have HL1 := Lib.hid hle1
    clear hbd hle1 hle2 HT4
    go_wp2_with fail
    go_ret
    exact ⟨by show Ending.returned (Value.bool (cc == cc)) = _; rw [beq_self_eq_true], by have hh := HBE.out; first | exact hh | exact hh.drew, n3, a3, s3, v3, b4, u4, v4, HL1.out, by have hh := HRES.out; first | exact hh | exact hh.under (by go_grown)⟩
end Go.Proofs.Ythmbpoldjddheaa
