/- Tables: Insert whole; Put. -/
import Derived.Test.YthmbpoldjddheaaTabIns3
namespace Go.Proofs.Ythmbpoldjddheaa
open Go.ChangeShapes Go.WideShapes Go.ChangeAt Go.RowKit
theorem grown_of_kept {S : Nat → Prop} {w w' : World} {row : Option Nat} (h : Kept S w w') (hS : ∀ k, S k → row = some k) : w.grownBy w' row := ⟨h.os, h.tape, h.output, h.size, fun k hk hne => h.block k hk (fun hs => hne (hS k hs).symm)⟩
theorem ins_any (B n p k : Nat) (a : Nat → Int) (s : Nat → ByteArray) (v : Value) (x : Int) (t : ByteArray) (hn : n ≤ 1000) (hp : p ≤ n) (w : World) (h : OwnsR w B 39 v n a s) (hB : B ≤ w.heap.size)
    (hk : w.heap[k]? = some (.cells #[.int .i64 x, .string t] 39 (0, 0))) (hkv : v.ownBlock ≠ some k) :
    Calls Try.prog 55 #[v, .int .i64 (p : Nat), .slice (some ⟨k, 0, none⟩) 1 1] w
      (fun e w' => ∃ v', e = .returned v' ∧ w.grownBy w' v.ownBlock ∧ Near w v v' ∧ OwnsR w' B 39 v' (n + 1) (insA a p x) (insS s p t)) := by
  by_cases hpn : p = n
  · subst hpn
    exact ins_end B p k a s v x t hn w h hB hk
  · have hlt : p < n := by omega
    rcases h.2 with ⟨rfl, e0⟩ | ⟨b, cap, cur, rfl, e2, e3, e4, e5, e6, e7⟩
    · omega
    · by_cases hroom : cap < n + 1
      · refine (ins_grow B b n cap p k a s x t hn hlt hroom w h (by simp [World.cell?, hk]) (by simp [World.cell?, hk])).mono ?_
        rintro e w' ⟨hb, c', rfl, ho⟩
        refine ⟨_, rfl, ⟨hb.os, hb.tape, hb.output, hb.size, fun q hq _ => hb.block q hq⟩, fun q hq => Or.inr ?_, ho.low hB⟩
        have := Option.some.inj hq
        exact Nat.le_of_eq this
      · refine (ins_room B b n cap p k a s x t hn hlt (by omega) w h hk (fun e => hkv (by rw [e]; rfl))).mono ?_
        rintro e w' ⟨hK, rfl, ho⟩
        exact ⟨_, rfl, grown_of_kept hK (fun q hq => by rw [hq]; rfl), fun q hq => Or.inl hq, ho⟩
theorem Rises.ins {a : Nat → Int} {n p : Nat} {x : Int} (h : Rises a n) (hp : Place a n x p) (hno : ∀ i, i < n → a i ≠ x) : Rises (insA a p x) (n + 1) := fun i j hij hj => by
  have hle := hp.le
  unfold insA
  by_cases h1 : j < p
  · rw [if_pos (by omega), if_pos h1]
    exact h i j hij (by omega)
  · rw [if_neg h1]
    by_cases h2 : j = p
    · rw [if_pos h2, if_pos (by omega)]
      exact hp.lo i (by omega)
    · rw [if_neg h2]
      by_cases h3 : i < p
      · rw [if_pos h3]
        exact h i (j - 1) (by omega) (by omega)
      · rw [if_neg h3]
        by_cases h4 : i = p
        · rw [if_pos h4]
          have h5 := hp.hi (j - 1) (by omega) (by omega)
          have h6 := hno (j - 1) (by omega)
          omega
        · rw [if_neg h4]
          exact h (i - 1) (j - 1) (by omega) (by omega)
/-- What the table's Put tells, and what is there then. -/
inductive Puts (B g room n : Nat) (a : Nat → Int) (s : Nat → ByteArray) (v : Value) (x : Int) (t : ByteArray) (w w' : World) : Ending → Prop
  | twice (i : Nat) (hi : i < n) (h : a i = x) (ht : TAt w' B g room n a s v) : Puts B g room n a s v x t w w' (.returned (.int .i64 7))
  | full (h : ∀ i, i < n → a i ≠ x) (hr : room = n) (ht : TAt w' B g room n a s v) : Puts B g room n a s v x t w w' (.returned (.int .i64 6))
  | put (p : Nat) (v' : Value) (h : ∀ i, i < n → a i ≠ x) (hp : Place a n x p) (hr : n < room) (hv : Near w v v') (ht : TAt w' B g room (n + 1) (insA a p x) (insS s p t) v') : Puts B g room n a s v x t w w' (.returned (.int .i64 0))
set_option maxHeartbeats 2000000 in
theorem put_any (B g room n : Nat) (a : Nat → Int) (s : Nat → ByteArray) (v : Value) (x : Int) (t : ByteArray) (hn : n ≤ 1000) (hr : room ≤ 9223372036854775807) (hnr : n ≤ room) (w : World) (h : TAt w B g room n a s v) (hB : B ≤ w.heap.size) :
    Calls Try.prog 19 #[.pointer (some ⟨g, 0, none⟩), .int .i64 x, .string t] w (fun e w' => Kept (fun k => k = g ∨ v.ownBlock = some k) w w' ∧ Puts B g room n a s v x t w w' e) := by
  have HF := Lib.hid (find_any g room n a s x (by omega) w h.at)
  have HL := Lib.hid (fun W hW => left_any g room n a s hr hnr W hW)
  have HT := Lib.hid h
  have n2 : (n : Int) ≤ 1000 := by omega
  have HN := Lib.hid hn
  have HNR := Lib.hid hnr
  have HBB := Lib.hid hB
  have hr2 : (room : Int) ≤ 9223372036854775807 := by omega
  clear h hn hr hnr hB
  go_enter Try.func19, Try.ntmps19
  go_wp2_with fail
  refine HF.out.mono ?_
  rintro e w1 ⟨hb, p, b, hp, hq, rfl⟩
  have HK := Lib.hid (Kept.of_below (S := fun k => k = g ∨ v.ownBlock = some k) hb)
  have HP := Lib.hid hp
  have HQ := Lib.hid hq
  have HS1 : Hid (w.heap.size ≤ w1.heap.size) := hb.size
  have HT1 : Hid (TAt w1 B g room n a s v) := HT.out.kept (S := fun _ => False) (Kept.of_below hb) (fun h => h) (fun _ _ h => h)
  clear hb hp hq HT
  cases b with
  | true =>
    have HPN := Lib.hid (HQ.out.1 rfl)
    go_wp2_with fail
    go_ret
    exact ⟨HK.out, .twice p HPN.out.1 HPN.out.2 HT1.out⟩
  | false =>
    have HNO : Hid (∀ i, i < n → a i ≠ x) := HP.out.no HT1.out.rises (fun h => by have := HQ.out.2 h; cases this)
    go_wp2_with fail
    refine (HL.out _ HT1.out.at).mono ?_
    rintro e w2 ⟨rfl, q, rfl⟩
    have HK2 : Hid (Kept (fun k => k = g ∨ v.ownBlock = some k) w (w1.drewN q)) := HK.out.trans (Kept.of_below (below_drewN (Below.refl _ _) q))
    have HT2 : Hid (TAt (w1.drewN q) B g room n a s v) := HT1.out.kept (S := fun _ => False) (Kept.of_below (below_drewN (Below.refl _ _) q)) (fun h => h) (fun _ _ h => h)
    have HS2 : Hid (w.heap.size ≤ (w1.drewN q).heap.size) := HS1.out
    obtain ⟨w2, hw2⟩ : ∃ w2, w2 = w1.drewN q := ⟨_, rfl⟩
    rw [← hw2] at HK2 HT2 HS2 ⊢
    clear hw2 HK HT1 HS1 HL
    by_cases hfull : room = n
    · have d : (((room - n : Nat) : Int) == 0) = true := by rw [beq_iff_eq]; omega
      have HFU := Lib.hid hfull
      clear hfull
      go_wp2_with fail
      go_ret
      exact ⟨HK2.out, .full HNO.out HFU.out HT2.out⟩
    · have d : (((room - n : Nat) : Int) == 0) = false := by rw [beq_eq_false_iff_ne]; have := HNR.out; omega
      have hp2 : (p : Int) ≤ n := by have := HP.out.le; omega
      obtain ⟨ao, cap, rfl, _⟩ := HT2.out.rows.view
      have h2 := HT2.out.here
      have k1 : w2.cell? ⟨g, 1, none⟩ = some (.slice ao n cap) := by simp [World.cell?, h2]
      have B3 : Below w2.heap.size w2 (w2.alloc (.cells #[.int .i64 x, .string t] 39)) := (Below.refl _ _).alloc (Nat.le_refl _) _
      have HT3 : Hid (TAt (w2.alloc (.cells #[.int .i64 x, .string t] 39)) B g room n a s (.slice ao n cap)) := HT2.out.kept (S := fun _ => False) (Kept.of_below B3) (fun h => h) (fun _ _ h => h)
      have HLO := Lib.hid (fun b hb => (World.ownsRow.lt HT2.out.rows b hb).2)
      have HINS := Lib.hid (ins_any B n p w2.heap.size a s (.slice ao n cap) x t HN.out HP.out.le (w2.alloc (.cells #[.int .i64 x, .string t] 39)) HT3.out.rows (by have := HBB.out; have := HS2.out; simp; omega) (heap_alloc_new w2 _) (fun e => by have := HLO.out _ e; omega))
      have HRM : Hid (n < room) := by have := HNR.out; show n < room; omega
      have HB3 := Lib.hid B3
      clear h2 B3 hfull
      go_wp2_with fail
      refine HINS.out.mono ?_
      rintro e w4 ⟨v', rfl, hg4, hn4, ho4⟩
      obtain ⟨ao', cap', rfl, _⟩ := ho4.view
      have hgv : Value.ownBlock (.slice ao n cap) ≠ some g := HT3.out.apart
      have H4 : w4.heap[g]? = some (.cells #[.int .i64 (room : Nat), .slice ao n cap] 90 (0, 0)) := (hg4.block g (lt_of_block HT3.out.here) (fun e => hgv e.symm)).trans HT3.out.here
      have k4 : w4.cell? ⟨g, 1, none⟩ = some (.slice ao n cap) := by simp [World.cell?, H4]
      have j4 : w4.frozen? ⟨g, 1, none⟩ = false := by simp [World.frozen?, H4]
      have hgw : g < w2.heap.size := lt_of_block HT2.out.here
      have hap : Value.ownBlock (.slice ao' (n + 1) cap') ≠ some g := fun e => by
        rcases hn4 g e with h | h
        · exact hgv h
        · simp at h; omega
      have HNR4 : Hid (Near w (.slice ao n cap) (.slice ao' (n + 1) cap')) := fun q hq => by
        rcases hn4 q hq with h | h
        · exact Or.inl h
        · refine Or.inr ?_
          have := HS2.out
          simp at h
          omega
      have HK4 : Hid (Kept (fun k => k = g ∨ Value.ownBlock (.slice ao n cap) = some k) w w4) := (HK2.out.trans (Kept.of_below HB3.out)).trans (Kept.of_grown hg4 (fun k hk => Or.inr hk))
      have HO4 := Lib.hid ho4
      have HH4 := Lib.hid H4
      have HAP := Lib.hid hap
      clear hg4 hn4 ho4 hgv H4 hap hgw
      go_wp2
      go_ret
      refine ⟨HK4.out.trans (Kept.of_grown (setCell_grown _ _ _) fun k hk => by injection hk with hk; exact Or.inl hk.symm), .put p (.slice ao' (n + 1) cap') HNO.out HP.out HRM.out HNR4.out ⟨HT2.out.lo, ?_, ?_, HAP.out, HT2.out.rises.ins HP.out HNO.out⟩⟩
      · exact heap_setCell_same w4 g 1 _ _ _ HH4.out
      · exact ownsRow_setCell_other HO4.out (a := ⟨g, 1, none⟩) HAP.out _
end Go.Proofs.Ythmbpoldjddheaa
