/- The document's Cut of a disk, walked (made by gen_dref.py). -/
import Derived.Test.YthmbpoldjddheaaDskRef
namespace Go.Proofs.Ythmbpoldjddheaa
open Go.ChangeShapes Go.WideShapes Go.ChangeAt Go.RowKit
set_option maxHeartbeats 4000000 in
theorem refcut_any (s t : ByteArray) (f : Int) (d : Bool) (h : Small s t) (hf : -9223372036854775808 ≤ f ∧ f ≤ 9223372036854775807) (n : Int) (w : World) :
    Calls Try.prog 30 #[.agg #[.string s, .string t, .int .i64 f, .bool d], .int .i64 n] w (Ret (cutV s t f d n) w) := by
  have HWR := Lib.hid (fun W => refwrong_any s t f d h W)
  have HGO := Lib.hid (fun W => goes_any s t f hf W)
  have n1 : (s.size : Int) ≤ 4000 := by have := h.1; omega
  clear h hf
  by_cases hf1 : f < -1
  · rw [cutV_1 hf1]
    rw [rwr_1 hf1] at HWR
    clear hf1 HGO
    go_enter Try.func30, Try.ntmps30
    go_wp2_with fail
    refine (HWR.out _).mono ?_
    rintro e w1 ⟨rfl, h1⟩
    obtain ⟨hb1, hz1, hbw⟩ := box_two h1
    have HB := Lib.hid hbw
    have HZ := Lib.hid hz1
    obtain ⟨k0, k1, k2, k3⟩ := four_read hb1
    obtain ⟨i0, i1, i2, i3⟩ := four_read hz1
    have j0 := four_free hz1 0
    have j1 := four_free hz1 1
    have j2 := four_free hz1 2
    have j3 := four_free hz1 3
    clear h1 hb1 hbw
    clear hz1
    obtain ⟨⟨f0, f1⟩, f2, f3⟩ := four_cells HZ.out (.string s) (.string t) (.int .i64 f) (.bool d)
    go_wp2_with fail
    (try simp only [Exit.inBlock, Exit.then])
    refine bodyPost_ret (v := .tuple #[.agg #[.string s, .string t, .int .i64 f, .bool d], .int .i64 1]) (by simp [results, Try.results30, go_sem, f0, f1, f2, f3]) rfl ?_
    exact ⟨rfl, below_four HB.out (by simp) _ _ _ _⟩
  cases hd : d with
  | true =>
    subst hd
    rw [cutV_16 hf1]
    rw [rwr_16 hf1] at HWR
    clear hf1 HGO
    go_enter Try.func30, Try.ntmps30
    go_wp2_with fail
    refine (HWR.out _).mono ?_
    rintro e w1 ⟨rfl, h1⟩
    obtain ⟨hb1, hz1, hbw⟩ := box_two h1
    have HB := Lib.hid hbw
    have HZ := Lib.hid hz1
    obtain ⟨k0, k1, k2, k3⟩ := four_read hb1
    obtain ⟨i0, i1, i2, i3⟩ := four_read hz1
    have j0 := four_free hz1 0
    have j1 := four_free hz1 1
    have j2 := four_free hz1 2
    have j3 := four_free hz1 3
    clear h1 hb1 hbw
    clear hz1
    obtain ⟨⟨f0, f1⟩, f2, f3⟩ := four_cells HZ.out (.string s) (.string t) (.int .i64 f) (.bool true)
    go_wp2_with fail
    (try simp only [Exit.inBlock, Exit.then])
    refine bodyPost_ret (v := .tuple #[.agg #[.string s, .string t, .int .i64 f, .bool true], .int .i64 16]) (by simp [results, Try.results30, go_sem, f0, f1, f2, f3]) rfl ?_
    exact ⟨rfl, below_four HB.out (by simp) _ _ _ _⟩
  | false =>
    subst hd
    rw [rwr_0 hf1] at HWR
    rcases (show t ≠ ⟨#[]⟩ ∨ t = ⟨#[]⟩ from (Classical.em _).symm) with ht | ht
    · rw [cutV_h hf1 (fun h => ht h.1)]
      obtain ⟨g0, g0', g0'', g0t⟩ := tl_ne ht
      clear hf1 HGO
      go_enter Try.func30, Try.ntmps30
      go_wp2_with fail
      refine (HWR.out _).mono ?_
      rintro e w1 ⟨rfl, h1⟩
      obtain ⟨hb1, hz1, hbw⟩ := box_two h1
      have HB := Lib.hid hbw
      have HZ := Lib.hid hz1
      obtain ⟨k0, k1, k2, k3⟩ := four_read hb1
      obtain ⟨i0, i1, i2, i3⟩ := four_read hz1
      have j0 := four_free hz1 0
      have j1 := four_free hz1 1
      have j2 := four_free hz1 2
      have j3 := four_free hz1 3
      clear h1 hb1 hbw
      clear hz1
      obtain ⟨⟨f0, f1⟩, f2, f3⟩ := four_cells HZ.out (.string s) (.string t) (.int .i64 f) (.bool false)
      go_wp2_with fail
      (try simp only [Exit.inBlock, Exit.then])
      refine bodyPost_ret (v := .tuple #[.agg #[.string s, .string t, .int .i64 f, .bool false], .int .i64 1]) (by simp [results, Try.results30, go_sem, f0, f1, f2, f3]) rfl ?_
      exact ⟨rfl, below_four HB.out (by simp) _ _ _ _⟩
    subst ht
    rcases (show n < 0 ∨ 0 ≤ n by omega) with hn | hn
    · rw [cutV_h hf1 (fun h => by omega)]
      have g2 : decide (n < 0) = true := decide_eq_true hn
      clear hf1 HGO hn
      go_enter Try.func30, Try.ntmps30
      go_wp2_with fail
      refine (HWR.out _).mono ?_
      rintro e w1 ⟨rfl, h1⟩
      obtain ⟨hb1, hz1, hbw⟩ := box_two h1
      have HB := Lib.hid hbw
      have HZ := Lib.hid hz1
      obtain ⟨k0, k1, k2, k3⟩ := four_read hb1
      obtain ⟨i0, i1, i2, i3⟩ := four_read hz1
      have j0 := four_free hz1 0
      have j1 := four_free hz1 1
      have j2 := four_free hz1 2
      have j3 := four_free hz1 3
      clear h1 hb1 hbw
      clear hz1
      obtain ⟨⟨f0, f1⟩, f2, f3⟩ := four_cells HZ.out (.string s) (.string ⟨#[]⟩) (.int .i64 f) (.bool false)
      go_wp2_with fail
      (try simp only [Exit.inBlock, Exit.then])
      refine bodyPost_ret (v := .tuple #[.agg #[.string s, .string ⟨#[]⟩, .int .i64 f, .bool false], .int .i64 1]) (by simp [results, Try.results30, go_sem, f0, f1, f2, f3]) rfl ?_
      exact ⟨rfl, below_four HB.out (by simp) _ _ _ _⟩
    have g2 : decide (n < 0) = false := decide_eq_false (by omega)
    rcases (show (s.size : Int) < n ∨ n ≤ s.size by omega) with hm | hm
    · rw [cutV_h hf1 (fun h => by omega)]
      have g3 : decide ((s.size : Int) < n) = true := decide_eq_true hm
      clear hf1 HGO hn hm
      go_enter Try.func30, Try.ntmps30
      go_wp2_with fail
      refine (HWR.out _).mono ?_
      rintro e w1 ⟨rfl, h1⟩
      obtain ⟨hb1, hz1, hbw⟩ := box_two h1
      have HB := Lib.hid hbw
      have HZ := Lib.hid hz1
      obtain ⟨k0, k1, k2, k3⟩ := four_read hb1
      obtain ⟨i0, i1, i2, i3⟩ := four_read hz1
      have j0 := four_free hz1 0
      have j1 := four_free hz1 1
      have j2 := four_free hz1 2
      have j3 := four_free hz1 3
      clear h1 hb1 hbw
      clear hz1
      obtain ⟨⟨f0, f1⟩, f2, f3⟩ := four_cells HZ.out (.string s) (.string ⟨#[]⟩) (.int .i64 f) (.bool false)
      go_wp2_with fail
      (try simp only [Exit.inBlock, Exit.then])
      refine bodyPost_ret (v := .tuple #[.agg #[.string s, .string ⟨#[]⟩, .int .i64 f, .bool false], .int .i64 1]) (by simp [results, Try.results30, go_sem, f0, f1, f2, f3]) rfl ?_
      exact ⟨rfl, below_four HB.out (by simp) _ _ _ _⟩
    rw [cutV_ok ⟨rfl, hn, hm⟩]
    obtain ⟨k, rfl⟩ : ∃ k : Nat, n = k := ⟨n.toNat, by omega⟩
    rw [show ((k : Nat) : Int).toNat = k by omega]
    have g3 : decide ((s.size : Int) < (k : Int)) = false := decide_eq_false (by omega)
    have g4 : decide (s.size < k) = false := decide_eq_false (by omega)
    by_cases hz : f = 0
    · subst hz
      rw [opV_0]
      rw [show gfu 0 = 0 from rfl, show decide ((0 : Int) = 0) = true from rfl] at HGO
      clear hf1 hn
      go_enter Try.func30, Try.ntmps30
      go_wp2_with fail
      refine (HWR.out _).mono ?_
      rintro e w1 ⟨rfl, h1⟩
      obtain ⟨hb1, hz1, hbw⟩ := box_two h1
      have HB := Lib.hid hbw
      have HZ := Lib.hid hz1
      obtain ⟨k0, k1, k2, k3⟩ := four_read hb1
      obtain ⟨i0, i1, i2, i3⟩ := four_read hz1
      have j0 := four_free hz1 0
      have j1 := four_free hz1 1
      have j2 := four_free hz1 2
      have j3 := four_free hz1 3
      clear h1 hb1 hbw
      go_wp2_with fail
      refine (HGO.out _).mono ?_
      rintro e w2 ⟨rfl, h2⟩
      have hz2 := (h2.block (w.heap.size + 1) (lt_of_block hz1)).trans hz1
      have HB2 := Lib.hid (HB.out.trans (h2.mono HB.out.size))
      have hz3 : (w2.alloc (.cells #[.string s, .string ⟨#[]⟩, .int .i64 0, .bool true] 49)).heap[w.heap.size + 1]? = some (.cells #[.string ⟨#[]⟩, .string ⟨#[]⟩, .int .i64 0, .bool false] 49 (0, 0)) := (Below.heap_alloc _ _ _ (lt_of_block hz2)).trans hz2
      have HB3 : Hid (Below w.heap.size w (w2.alloc (.cells #[.string s, .string ⟨#[]⟩, .int .i64 0, .bool true] 49))) := HB2.out.alloc HB2.out.size _
      obtain ⟨m0, m1, m2, m3⟩ := four_read hz3
      have l0 := four_free hz3 0
      have l1 := four_free hz3 1
      have l2 := four_free hz3 2
      have l3 := four_free hz3 3
      have HZ3 := Lib.hid hz3
      clear h2 hz1 hz2 hz3 i0 i1 i2 i3 j0 j1 j2 j3 HZ HB HB2 HGO HWR k0 k1 k2 k3
      obtain ⟨⟨f0, f1⟩, f2, f3⟩ := four_cells HZ3.out (.string s) (.string ⟨#[]⟩) (.int .i64 0) (.bool true)
      go_wp2_with fail
      (try simp only [Exit.inBlock, Exit.then])
      refine bodyPost_ret (v := .tuple #[.agg #[.string s, .string ⟨#[]⟩, .int .i64 0, .bool true], .int .i64 16]) (by simp [results, Try.results30, go_sem, f0, f1, f2, f3]) rfl ?_
      exact ⟨rfl, below_four HB3.out (by simp) _ _ _ _⟩
    · rw [opV_k hf1 hz]
      rw [show decide (f = 0) = false from decide_eq_false hz] at HGO
      obtain ⟨f', hf'⟩ : ∃ f', gfu f = f' := ⟨_, rfl⟩
      rw [hf'] at HGO ⊢
      clear hf1 hz hf' hn
      go_enter Try.func30, Try.ntmps30
      go_wp2_with fail
      refine (HWR.out _).mono ?_
      rintro e w1 ⟨rfl, h1⟩
      obtain ⟨hb1, hz1, hbw⟩ := box_two h1
      have HB := Lib.hid hbw
      have HZ := Lib.hid hz1
      obtain ⟨k0, k1, k2, k3⟩ := four_read hb1
      obtain ⟨i0, i1, i2, i3⟩ := four_read hz1
      have j0 := four_free hz1 0
      have j1 := four_free hz1 1
      have j2 := four_free hz1 2
      have j3 := four_free hz1 3
      clear h1 hb1 hbw
      go_wp2_with fail
      refine (HGO.out _).mono ?_
      rintro e w2 ⟨rfl, h2⟩
      have hz2 := (h2.block (w.heap.size + 1) (lt_of_block hz1)).trans hz1
      have HB2 := Lib.hid (HB.out.trans (h2.mono HB.out.size))
      have hz3 : (w2.alloc (.cells #[.string (s.extract 0 k), .string ⟨#[]⟩, .int .i64 f', .bool false] 49)).heap[w.heap.size + 1]? = some (.cells #[.string ⟨#[]⟩, .string ⟨#[]⟩, .int .i64 0, .bool false] 49 (0, 0)) := (Below.heap_alloc _ _ _ (lt_of_block hz2)).trans hz2
      have HB3 : Hid (Below w.heap.size w (w2.alloc (.cells #[.string (s.extract 0 k), .string ⟨#[]⟩, .int .i64 f', .bool false] 49))) := HB2.out.alloc HB2.out.size _
      obtain ⟨m0, m1, m2, m3⟩ := four_read hz3
      have l0 := four_free hz3 0
      have l1 := four_free hz3 1
      have l2 := four_free hz3 2
      have l3 := four_free hz3 3
      have HZ3 := Lib.hid hz3
      clear h2 hz1 hz2 hz3 i0 i1 i2 i3 j0 j1 j2 j3 HZ HB HB2 HGO HWR k0 k1 k2 k3
      obtain ⟨⟨f0, f1⟩, f2, f3⟩ := four_cells HZ3.out (.string (s.extract 0 k)) (.string ⟨#[]⟩) (.int .i64 f') (.bool false)
      go_wp2_with fail
      (try simp only [Exit.inBlock, Exit.then])
      refine bodyPost_ret (v := .tuple #[.agg #[.string (s.extract 0 k), .string ⟨#[]⟩, .int .i64 f', .bool false], .int .i64 0]) (by simp [results, Try.results30, go_sem, f0, f1, f2, f3]) rfl ?_
      exact ⟨rfl, below_four HB3.out (by simp) _ _ _ _⟩
end Go.Proofs.Ythmbpoldjddheaa
