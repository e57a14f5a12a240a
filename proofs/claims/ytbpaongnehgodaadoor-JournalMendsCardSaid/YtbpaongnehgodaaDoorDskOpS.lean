/- disk.operate with one of its closures (made by gen_dop.py). -/
import Derived.Test.YtbpaongnehgodaaDoorDskOp
namespace Go.Proofs.YtbpaongnehgodaaDoor
open Go.ChangeShapes Go.WideShapes Go.ChangeAt Go.RowKit
set_option maxHeartbeats 4000000 in
theorem op_sync (s t : ByteArray) (f : Int) (d : Bool) (hin : Int) (h : Small s t) (hf : -9223372036854775808 ≤ f ∧ f ≤ 9223372036854775807) (w : World) :
    Calls Tryd.prog 35 #[.agg #[.string s, .string t, .int .i64 f, .bool d], .int .i64 hin, .func (.func 37) #[] #[]] w (Ret (opV s t f d hin s t (s ++ t) ⟨#[]⟩) w) := by
  have HCK := Lib.hid (fun W => dcheck_any s t f d h W)
  have HDO := Lib.hid (fun p f' d' g W hb  => dsync1 s t f' d' p h g W hb)
  clear h
  by_cases hf1 : f < -1
  · rw [show dchk f = 1 from if_pos hf1] at HCK
    have HE : Hid (opV s t f d hin s t (s ++ t) ⟨#[]⟩ = .tuple #[.agg #[.string s, .string t, .int .i64 f, .bool d], .int .i64 1]) := if_pos hf1
    rw [HE.out]
    clear hf hf1 HE HDO
    go_enter Tryd.func35, Tryd.ntmps35
    go_wp2_with fail
    refine (HCK.out _).mono ?_
    rintro e w1 ⟨rfl, h1⟩
    obtain ⟨hb1', hz1, hbw⟩ := box_two h1
    have hb1 : DB w1 w.heap.size s t f d := hb1'
    have HB := Lib.hid hbw
    clear hb1' hbw
    have HB1 := Lib.hid hb1
    have HZ := Lib.hid hz1
    obtain ⟨k0, k1, k2, k3⟩ := hb1.cells
    obtain ⟨i0, i1, i2, i3⟩ := four_read hz1
    have j0 := four_free hz1 0
    have j1 := four_free hz1 1
    have j2 := four_free hz1 2
    have j3 := four_free hz1 3
    clear h1 hb1 hz1
    obtain ⟨⟨f0, f1⟩, f2, f3⟩ := four_cells HZ.out (.string s) (.string t) (.int .i64 f) (.bool d)
    go_wp2_with fail
    (try simp only [Exit.inBlock, Exit.then])
    refine bodyPost_ret (v := .tuple #[.agg #[.string s, .string t, .int .i64 f, .bool d], .int .i64 1]) (by simp [results, Tryd.results35, go_sem, f0, f1, f2, f3]) rfl ?_
    exact ⟨rfl, below_four HB.out (by simp) _ _ _ _⟩
  rw [show dchk f = 0 from if_neg hf1] at HCK
  cases hd : d with
  | true =>
    subst hd
    have HE : Hid (opV s t f true hin s t (s ++ t) ⟨#[]⟩ = .tuple #[.agg #[.string s, .string t, .int .i64 f, .bool true], .int .i64 16]) := by show opV _ _ _ _ _ _ _ _ _ = _; unfold opV; rw [if_neg hf1, if_pos rfl]
    rw [HE.out]
    clear hf hf1 HE HDO
    go_enter Tryd.func35, Tryd.ntmps35
    go_wp2_with fail
    refine (HCK.out _).mono ?_
    rintro e w1 ⟨rfl, h1⟩
    obtain ⟨hb1', hz1, hbw⟩ := box_two h1
    have hb1 : DB w1 w.heap.size s t f true := hb1'
    have HB := Lib.hid hbw
    clear hb1' hbw
    have HB1 := Lib.hid hb1
    have HZ := Lib.hid hz1
    obtain ⟨k0, k1, k2, k3⟩ := hb1.cells
    obtain ⟨i0, i1, i2, i3⟩ := four_read hz1
    have j0 := four_free hz1 0
    have j1 := four_free hz1 1
    have j2 := four_free hz1 2
    have j3 := four_free hz1 3
    clear h1 hb1 hz1
    obtain ⟨⟨f0, f1⟩, f2, f3⟩ := four_cells HZ.out (.string s) (.string t) (.int .i64 f) (.bool true)
    go_wp2_with fail
    (try simp only [Exit.inBlock, Exit.then])
    refine bodyPost_ret (v := .tuple #[.agg #[.string s, .string t, .int .i64 f, .bool true], .int .i64 16]) (by simp [results, Tryd.results35, go_sem, f0, f1, f2, f3]) rfl ?_
    exact ⟨rfl, below_four HB.out (by simp) _ _ _ _⟩
  | false =>
    subst hd
    rcases (show hin ≠ 0 ∨ hin = 0 by omega) with hh | hh
    · have HE : Hid (opV s t f false hin s t (s ++ t) ⟨#[]⟩ = .tuple #[.agg #[.string s, .string t, .int .i64 f, .bool false], .int .i64 hin]) := by show opV _ _ _ _ _ _ _ _ _ = _; unfold opV; rw [if_neg hf1, if_neg (by decide), if_pos hh]
      rw [HE.out]
      have g1 : (hin == 0) = false := by rw [beq_eq_false_iff_ne]; exact hh
      clear hf hf1 HE HDO hh
      go_enter Tryd.func35, Tryd.ntmps35
      go_wp2_with fail
      refine (HCK.out _).mono ?_
      rintro e w1 ⟨rfl, h1⟩
      obtain ⟨hb1', hz1, hbw⟩ := box_two h1
      have hb1 : DB w1 w.heap.size s t f false := hb1'
      have HB := Lib.hid hbw
      clear hb1' hbw
      have HB1 := Lib.hid hb1
      have HZ := Lib.hid hz1
      obtain ⟨k0, k1, k2, k3⟩ := hb1.cells
      obtain ⟨i0, i1, i2, i3⟩ := four_read hz1
      have j0 := four_free hz1 0
      have j1 := four_free hz1 1
      have j2 := four_free hz1 2
      have j3 := four_free hz1 3
      clear h1 hb1 hz1
      obtain ⟨⟨f0, f1⟩, f2, f3⟩ := four_cells HZ.out (.string s) (.string t) (.int .i64 f) (.bool false)
      go_wp2_with fail
      (try simp only [Exit.inBlock, Exit.then])
      refine bodyPost_ret (v := .tuple #[.agg #[.string s, .string t, .int .i64 f, .bool false], .int .i64 hin]) (by simp [results, Tryd.results35, go_sem, f0, f1, f2, f3]) rfl ?_
      exact ⟨rfl, below_four HB.out (by simp) _ _ _ _⟩
    subst hh
    by_cases hz : f = 0
    · subst hz
      have HE : Hid (opV s t 0 false 0 s t (s ++ t) ⟨#[]⟩ = .tuple #[.agg #[.string s, .string t, .int .i64 0, .bool true], .int .i64 16]) := rfl
      rw [HE.out]
      clear hf hf1 HE
      go_enter Tryd.func35, Tryd.ntmps35
      go_wp2_with fail
      refine (HCK.out _).mono ?_
      rintro e w1 ⟨rfl, h1⟩
      obtain ⟨hb1', hz1, hbw⟩ := box_two h1
      have hb1 : DB w1 w.heap.size s t 0 false := hb1'
      have HB := Lib.hid hbw
      clear hb1' hbw
      have HB1 := Lib.hid hb1
      have HZ := Lib.hid hz1
      obtain ⟨k0, k1, k2, k3⟩ := hb1.cells
      obtain ⟨i0, i1, i2, i3⟩ := four_read hz1
      have j0 := four_free hz1 0
      have j1 := four_free hz1 1
      have j2 := four_free hz1 2
      have j3 := four_free hz1 3
      have p3 := hb1.free 3
      have HB2 : Hid (DB (w1.setCell ⟨w.heap.size, 3, none⟩ (.bool true)) w.heap.size s t 0 true) := db_set HB1.out rfl
      have HZ2 : Hid ((w1.setCell ⟨w.heap.size, 3, none⟩ (.bool true)).heap[w.heap.size + 1]? = some (.cells #[.string ⟨#[]⟩, .string ⟨#[]⟩, .int .i64 0, .bool false] 26 (0, 0))) := (Below.heap_setCell _ _ _ _ (by simp)).trans HZ.out
      have HB3 : Hid (Below w.heap.size w (w1.setCell ⟨w.heap.size, 3, none⟩ (.bool true))) := HB.out.setCell (Nat.le_refl _) _
      have HS3 : Hid (w.heap.size + 1 < (w1.setCell ⟨w.heap.size, 3, none⟩ (.bool true)).heap.size) := lt_of_block HZ2.out
      clear h1 hb1 hz1
      go_wp2_with fail
      refine (HDO.out false 0 true w.heap.size _ HB2.out ).mono ?_
      rintro e w2 ⟨rfl, hb2, hg2⟩
      have HB4 := Lib.hid (below_grown HB3.out (Nat.le_refl _) HB3.out.size hg2)
      have hz2 := (hg2.block (w.heap.size + 1) (by exact HS3.out) (by simp)).trans HZ2.out
      have hb3 : DB w2 w.heap.size s t 0 true := hb2
      obtain ⟨m0, m1, m2, m3⟩ := hb3.cells
      obtain ⟨n0, n1, n2, n3⟩ := four_read hz2
      have l0 := four_free hz2 0
      have l1 := four_free hz2 1
      have l2 := four_free hz2 2
      have l3 := four_free hz2 3
      have HZ3 := Lib.hid hz2
      clear hg2 hz2 hb2 hb3 HZ HB2 HZ2 HB3 HDO HB1
      obtain ⟨⟨f0, f1⟩, f2, f3⟩ := four_cells HZ3.out (.string s) (.string t) (.int .i64 0) (.bool true)
      go_wp2_with fail
      (try simp only [Exit.inBlock, Exit.then])
      refine bodyPost_ret (v := .tuple #[.agg #[.string s, .string t, .int .i64 0, .bool true], .int .i64 16]) (by simp [results, Tryd.results35, go_sem, f0, f1, f2, f3]) rfl ?_
      exact ⟨rfl, below_four HB4.out (by simp) _ _ _ _⟩
    by_cases hp : 0 < f
    · have HE : Hid (opV s t f false 0 s t (s ++ t) ⟨#[]⟩ = .tuple #[.agg #[.string (s ++ t), .string ⟨#[]⟩, .int .i64 (f - 1), .bool false], .int .i64 0]) := by show opV _ _ _ _ _ _ _ _ _ = _; unfold opV; rw [if_neg hf1, if_neg (by decide), if_neg (by decide), if_neg hz, if_pos hp]
      rw [HE.out]
      have g1 : (f == 0) = false := by rw [beq_eq_false_iff_ne]; exact hz
      have g2 : decide (0 < f) = true := decide_eq_true hp
      have g3 : IntKind.i64.wrap (f - 1) = f - 1 := wrap_i64 (by omega) (by omega)
      clear hf hf1 HE hz hp
      go_enter Tryd.func35, Tryd.ntmps35
      go_wp2_with fail
      refine (HCK.out _).mono ?_
      rintro e w1 ⟨rfl, h1⟩
      obtain ⟨hb1', hz1, hbw⟩ := box_two h1
      have hb1 : DB w1 w.heap.size s t f false := hb1'
      have HB := Lib.hid hbw
      clear hb1' hbw
      have HB1 := Lib.hid hb1
      have HZ := Lib.hid hz1
      obtain ⟨k0, k1, k2, k3⟩ := hb1.cells
      obtain ⟨i0, i1, i2, i3⟩ := four_read hz1
      have j0 := four_free hz1 0
      have j1 := four_free hz1 1
      have j2 := four_free hz1 2
      have j3 := four_free hz1 3
      have p2 := hb1.free 2
      have HB2 : Hid (DB (w1.setCell ⟨w.heap.size, 2, none⟩ (.int .i64 (f - 1))) w.heap.size s t (f - 1) false) := db_set HB1.out rfl
      have HZ2 : Hid ((w1.setCell ⟨w.heap.size, 2, none⟩ (.int .i64 (f - 1))).heap[w.heap.size + 1]? = some (.cells #[.string ⟨#[]⟩, .string ⟨#[]⟩, .int .i64 0, .bool false] 26 (0, 0))) := (Below.heap_setCell _ _ _ _ (by simp)).trans HZ.out
      have HB3 : Hid (Below w.heap.size w (w1.setCell ⟨w.heap.size, 2, none⟩ (.int .i64 (f - 1)))) := HB.out.setCell (Nat.le_refl _) _
      have HS3 : Hid (w.heap.size + 1 < (w1.setCell ⟨w.heap.size, 2, none⟩ (.int .i64 (f - 1))).heap.size) := lt_of_block HZ2.out
      clear h1 hb1 hz1
      go_wp2_with fail
      refine (HDO.out true (f - 1) false w.heap.size _ HB2.out ).mono ?_
      rintro e w2 ⟨rfl, hb2, hg2⟩
      have HB4 := Lib.hid (below_grown HB3.out (Nat.le_refl _) HB3.out.size hg2)
      have hz2 := (hg2.block (w.heap.size + 1) (by exact HS3.out) (by simp)).trans HZ2.out
      have hb3 : DB w2 w.heap.size (s ++ t) ⟨#[]⟩ (f - 1) false := hb2
      obtain ⟨m0, m1, m2, m3⟩ := hb3.cells
      obtain ⟨n0, n1, n2, n3⟩ := four_read hz2
      have l0 := four_free hz2 0
      have l1 := four_free hz2 1
      have l2 := four_free hz2 2
      have l3 := four_free hz2 3
      have HZ3 := Lib.hid hz2
      clear hg2 hz2 hb2 hb3 HZ HB2 HZ2 HB3 HDO HB1
      obtain ⟨⟨f0, f1⟩, f2, f3⟩ := four_cells HZ3.out (.string (s ++ t)) (.string ⟨#[]⟩) (.int .i64 (f - 1)) (.bool false)
      go_wp2_with fail
      (try simp only [Exit.inBlock, Exit.then])
      refine bodyPost_ret (v := .tuple #[.agg #[.string (s ++ t), .string ⟨#[]⟩, .int .i64 (f - 1), .bool false], .int .i64 0]) (by simp [results, Tryd.results35, go_sem, f0, f1, f2, f3]) rfl ?_
      exact ⟨rfl, below_four HB4.out (by simp) _ _ _ _⟩
    · have HE : Hid (opV s t f false 0 s t (s ++ t) ⟨#[]⟩ = .tuple #[.agg #[.string (s ++ t), .string ⟨#[]⟩, .int .i64 f, .bool false], .int .i64 0]) := by show opV _ _ _ _ _ _ _ _ _ = _; unfold opV; rw [if_neg hf1, if_neg (by decide), if_neg (by decide), if_neg hz, if_neg hp]
      rw [HE.out]
      have g1 : (f == 0) = false := by rw [beq_eq_false_iff_ne]; exact hz
      have g2 : decide (0 < f) = false := decide_eq_false hp
      clear hf hf1 HE hz hp
      go_enter Tryd.func35, Tryd.ntmps35
      go_wp2_with fail
      refine (HCK.out _).mono ?_
      rintro e w1 ⟨rfl, h1⟩
      obtain ⟨hb1', hz1, hbw⟩ := box_two h1
      have hb1 : DB w1 w.heap.size s t f false := hb1'
      have HB := Lib.hid hbw
      clear hb1' hbw
      have HB1 := Lib.hid hb1
      have HZ := Lib.hid hz1
      obtain ⟨k0, k1, k2, k3⟩ := hb1.cells
      obtain ⟨i0, i1, i2, i3⟩ := four_read hz1
      have j0 := four_free hz1 0
      have j1 := four_free hz1 1
      have j2 := four_free hz1 2
      have j3 := four_free hz1 3
      have HB2 := HB1
      have HZ2 := HZ
      have HB3 := HB
      have HS3 : Hid (w.heap.size + 1 < (w1).heap.size) := lt_of_block HZ2.out
      clear h1 hb1 hz1
      go_wp2_with fail
      refine (HDO.out true f false w.heap.size _ HB2.out ).mono ?_
      rintro e w2 ⟨rfl, hb2, hg2⟩
      have HB4 := Lib.hid (below_grown HB3.out (Nat.le_refl _) HB3.out.size hg2)
      have hz2 := (hg2.block (w.heap.size + 1) (by exact HS3.out) (by simp)).trans HZ2.out
      have hb3 : DB w2 w.heap.size (s ++ t) ⟨#[]⟩ f false := hb2
      obtain ⟨m0, m1, m2, m3⟩ := hb3.cells
      obtain ⟨n0, n1, n2, n3⟩ := four_read hz2
      have l0 := four_free hz2 0
      have l1 := four_free hz2 1
      have l2 := four_free hz2 2
      have l3 := four_free hz2 3
      have HZ3 := Lib.hid hz2
      clear hg2 hz2 hb2 hb3 HZ HB2 HZ2 HB3 HDO HB1
      obtain ⟨⟨f0, f1⟩, f2, f3⟩ := four_cells HZ3.out (.string (s ++ t)) (.string ⟨#[]⟩) (.int .i64 f) (.bool false)
      go_wp2_with fail
      (try simp only [Exit.inBlock, Exit.then])
      refine bodyPost_ret (v := .tuple #[.agg #[.string (s ++ t), .string ⟨#[]⟩, .int .i64 f, .bool false], .int .i64 0]) (by simp [results, Tryd.results35, go_sem, f0, f1, f2, f3]) rfl ?_
      exact ⟨rfl, below_four HB4.out (by simp) _ _ _ _⟩
end Go.Proofs.YtbpaongnehgodaaDoor
