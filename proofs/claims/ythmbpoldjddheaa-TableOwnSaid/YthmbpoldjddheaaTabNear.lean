/- Tables: Near, New. -/
import Derived.Test.YthmbpoldjddheaaTabSet
namespace Go.Proofs.Ythmbpoldjddheaa
open Go.ChangeShapes Go.WideShapes Go.ChangeAt Go.RowKit
/-- What Near answers. -/
def NearQ (a : Nat → Int) (s : Nat → ByteArray) (n : Nat) (x : Int) (w : World) (e : Ending) (w' : World) : Prop :=
  Below w.heap.size w w' ∧ ((∃ p, p < n ∧ Place a n x p ∧ e = .returned (.tuple #[rowV (a p) (s p), .bool true])) ∨ (Place a n x n ∧ e = .returned (.tuple #[rowV 0 ⟨#[]⟩, .bool false])))
theorem two_cells {w : World} {g ty : Nat} {x y : Value} (h : w.heap[g]? = some (.cells #[x, y] ty (0, 0))) (u v : Value) : (w.setCell ⟨g, 0, none⟩ u).cell? ⟨g, 0, none⟩ = some u ∧ ((w.setCell ⟨g, 0, none⟩ u).setCell ⟨g, 1, none⟩ v).cell? ⟨g, 1, none⟩ = some v := by
  constructor <;> simp [World.cell?, World.setCell, Array.getElem?_modify, h]
set_option maxHeartbeats 2000000 in
theorem near_any (g room n : Nat) (a : Nat → Int) (s : Nat → ByteArray) (x : Int) (hn : n ≤ 1000) (w : World) (h : TabAt w g room n a s) :
    Calls Try.prog 18 #[.pointer (some ⟨g, 0, none⟩), .int .i64 x] w (NearQ a s n x w) := by
  have HF : Hid (∀ W, Below w.heap.size w W → Calls Try.prog 53 #[.pointer (some ⟨g, 0, none⟩), .int .i64 x] W (FoundQ a n x W)) := fun W hb => find_any g room n a s x (by omega) W (h.below hb)
  have HL : Hid (∀ W, Below w.heap.size w W → Calls Try.prog 21 #[.pointer (some ⟨g, 0, none⟩)] W (RetS (.int .i64 (n : Nat)) W)) := fun W hb => len_any g room n a s W (h.below hb)
  have HT : Hid (∀ W, Below w.heap.size w W → TabAt W g room n a s) := fun W hb => h.below hb
  have n2 : (n : Int) ≤ 1000 := by omega
  clear h hn
  go_enter Try.func18, Try.ntmps18
  go_wp2_with fail
  refine (HF.out _ ((Below.refl _ _).alloc (Nat.le_refl _) _)).mono ?_
  rintro e w1 ⟨hb, p, b, hp, hq, rfl⟩
  have HB : Hid (Below w.heap.size w w1) := ((Below.refl _ _).alloc (Nat.le_refl _) _).trans (hb.mono (by simp))
  have hz : w1.heap[w.heap.size]? = some (.cells #[.int .i64 0, .string ⟨#[]⟩] 39 (0, 0)) := by
    rw [hb.block _ (by simp)]
    exact heap_alloc_new _ _
  have HP := Lib.hid hp
  have HZ := Lib.hid hz
  clear hb hp hq hz
  go_wp2_with fail
  refine (HL.out _ HB.out).mono ?_
  rintro e w2 ⟨rfl, rfl⟩
  have z0 : w1.cell? ⟨w.heap.size, 0, none⟩ = some (.int .i64 0) := by simp [World.cell?, HZ.out]
  have z1 : w1.cell? ⟨w.heap.size, 1, none⟩ = some (.string ⟨#[]⟩) := by simp [World.cell?, HZ.out]
  have zf : ∀ o, w1.frozen? ⟨w.heap.size, o, none⟩ = false := fun o => by simp [World.frozen?, HZ.out]
  have zf0 := zf 0
  have zf1 := zf 1
  clear zf
  by_cases hpn : p = n
  · have g1 : ((p : Int) == (n : Int)) = true := by rw [beq_iff_eq]; omega
    have HPN := Lib.hid hpn
    clear hpn
    obtain ⟨f0, f1⟩ := two_cells HZ.out (.int .i64 0) (.string ⟨#[]⟩)
    go_wp2_with fail
    (try simp only [Exit.inBlock, Exit.then])
    refine bodyPost_ret (v := .tuple #[.agg #[.int .i64 0, .string ⟨#[]⟩], .bool false]) (by simp [results, Try.results18, go_sem, f0, f1]) rfl ?_
    · exact ⟨(HB.out.setCell (by simp) _).setCell (by simp) _, Or.inr ⟨by have := HP.out; rwa [HPN.out] at this, rfl⟩⟩
  · have g1 : ((p : Int) == (n : Int)) = false := by rw [beq_eq_false_iff_ne]; omega
    have hlt : p < n := by have := HP.out.le; omega
    have hlt2 : (p : Int) < n := by omega
    obtain ⟨h0, h1, ⟨ao, cap, h2, h3⟩, h4⟩ := HT.out _ HB.out
    obtain ⟨bb, off, rfl, hbb, hc⟩ := h3 (by omega)
    have c1 := (hc p hlt).1
    have c2 := (hc p hlt).2
    have HPN := Lib.hid hlt
    clear h1 h4 hbb hc hlt hpn
    obtain ⟨y, hy⟩ : ∃ y, a p = y := ⟨_, rfl⟩
    obtain ⟨t, ht⟩ : ∃ t, s p = t := ⟨_, rfl⟩
    rw [hy] at c1
    rw [ht] at c2
    obtain ⟨f0, f1⟩ := two_cells HZ.out (.int .i64 y) (.string t)
    go_wp2_with fail
    (try simp only [Exit.inBlock, Exit.then])
    refine bodyPost_ret (v := .tuple #[.agg #[.int .i64 y, .string t], .bool true]) (by simp [results, Try.results18, go_sem, f0, f1]) rfl ?_
    · exact ⟨(HB.out.setCell (by simp) _).setCell (by simp) _, Or.inl ⟨p, HPN.out, HP.out, by rw [hy, ht]; rfl⟩⟩
set_option maxHeartbeats 2000000 in
theorem new_any (r : Int) (a : Nat → Int) (s : Nat → ByteArray) (w : World) :
    Calls Try.prog 11 #[.int .i64 r] w (fun e w' => Below w.heap.size w w' ∧ e = .returned (.pointer (some ⟨w.heap.size, 0, none⟩)) ∧ TAt w' w.heap.size w.heap.size r.toNat 0 a s (.slice none 0 0)) := by
  go_enter Try.func11, Try.ntmps11
  go_wp2_with fail
  all_goals
    go_ret
    refine ⟨(Below.refl _ _).alloc (Nat.le_refl _) _, rfl, Nat.le_refl _, ?_, OwnsR.nil _ _ _ _ _, by simp [Value.ownBlock], fun i j _ h => absurd h (Nat.not_lt_zero _)⟩
    first
    | (rw [show ((r.toNat : Nat) : Int) = r by omega]; exact heap_alloc_new _ _)
    | (rw [show ((r.toNat : Nat) : Int) = 0 by omega]; exact heap_alloc_new _ _)
end Go.Proofs.Ythmbpoldjddheaa
