/- The document's Plain, walked (made by gen_cf5.py). -/
import Derived.Test.YthmbpoldjddheaaCfPlain
namespace Go.Proofs.Ythmbpoldjddheaa
open Go.ChangeShapes Go.WideShapes Go.ChangeAt Go.RowKit
theorem nr_less {n : Int} {l m i : Nat} (h : l ≤ m) (hi : i < nr n l m) : i < m ∧ ((i : Int) < n ∨ (¬ (i : Int) < n ∧ i < l)) := by
  unfold nr at hi
  split at hi
  · omega
  · split at hi <;> omega
theorem nr_end {n : Int} {l m i : Nat} (_ : l ≤ m) (hi : i = nr n l m) : ¬ i < m ∨ (i < m ∧ ¬ (i : Int) < n ∧ ¬ i < l) := by
  unfold nr at hi
  split at hi
  · omega
  · split at hi <;> omega
theorem prs_succ (a b : Value) (n : Nat) : prs a b (n + 1) = prs a b n ++ [a, b] := prs_add a b n 1
theorem row_kept {w w' : World} {B T size n g : Nat} {v : Value} {xs : List Value} (h : w.ownsRow B T size v n xs) (hg : w.grownBy w' (some g)) (hlt : g < B) : w'.ownsRow B T size v n xs := World.ownsRow.kept h hg (Or.inr (fun e => by have := (World.ownsRow.lt h g e).1; omega))
set_option maxHeartbeats 16000000 in
set_option maxRecDepth 100000 in
theorem refplain_any (a b d : Int) (w : World) :
    Calls Try.prog 47 #[.int .i64 a, .int .i64 b, .int .i64 d] w (fun e w' => Below w.heap.size w w' ∧ ∃ am au ac cm cs cc, e = .returned (.agg #[.slice am (nr a 2 16) cm, .slice au (nr b 1 8) cs, .slice ac (nr d 1 4) cc, .int .i64 500, .int .i64 200, .int .i64 1, .int .i64 64, .int .i64 32]) ∧ (plainC am au ac (nr a 2 16) cm (nr b 1 8) cs (nr d 1 4) cc).At w') := by
  have N1 := Lib.hid (nr_in a 2 16 (by decide))
  have N2 := Lib.hid (nr_in b 1 8 (by decide))
  have N3 := Lib.hid (nr_in d 1 4 (by decide))
  have L1 := Lib.hid (fun i => nr_less (n := a) (l := 2) (m := 16) (i := i) (by decide))
  have L2 := Lib.hid (fun i => nr_less (n := b) (l := 1) (m := 8) (i := i) (by decide))
  have L3 := Lib.hid (fun i => nr_less (n := d) (l := 1) (m := 4) (i := i) (by decide))
  have E1 := Lib.hid (fun i => nr_end (n := a) (l := 2) (m := 16) (i := i) (by decide))
  have E2 := Lib.hid (fun i => nr_end (n := b) (l := 1) (m := 8) (i := i) (by decide))
  have E3 := Lib.hid (fun i => nr_end (n := d) (l := 1) (m := 4) (i := i) (by decide))
  obtain ⟨nm, hnm⟩ : ∃ x, nr a 2 16 = x := ⟨_, rfl⟩
  obtain ⟨ns, hns⟩ : ∃ x, nr b 1 8 = x := ⟨_, rfl⟩
  obtain ⟨nc, hnc⟩ : ∃ x, nr d 1 4 = x := ⟨_, rfl⟩
  rw [hnm] at N1 L1 E1 ⊢
  rw [hns] at N2 L2 E2 ⊢
  rw [hnc] at N3 L3 E3 ⊢
  clear hnm hns hnc
  obtain ⟨im, hinfm, hzm0, hzm1, hzm2⟩ := info_parts' infoM
  obtain ⟨is, hinfs, hzs0, hzs1, hzs2⟩ := info_parts' infoS
  obtain ⟨ic, hinfc, hzc0, hzc1, hzc2⟩ := info_parts' infoCy
  obtain ⟨X, hX⟩ : ∃ X, w.heap.size + 1 = X := ⟨_, rfl⟩
  have HL0 : Hid (Lp ((w.alloc (.cells #[.slice none 0 0, .slice none 0 0, .slice none 0 0, .int .i64 0, .int .i64 0, .int .i64 0, .int .i64 0, .int .i64 0] 67)).alloc (.cells #[.slice none 0 0, .slice none 0 0, .slice none 0 0, .int .i64 500, .int .i64 200, .int .i64 1, .int .i64 64, .int .i64 32] 67)) ((w.alloc (.cells #[.slice none 0 0, .slice none 0 0, .slice none 0 0, .int .i64 0, .int .i64 0, .int .i64 0, .int .i64 0, .int .i64 0] 67)).alloc (.cells #[.slice none 0 0, .slice none 0 0, .slice none 0 0, .int .i64 500, .int .i64 200, .int .i64 1, .int .i64 64, .int .i64 32] 67)) X (fun v => #[v, .slice none 0 0, .slice none 0 0, .int .i64 500, .int .i64 200, .int .i64 1, .int .i64 64, .int .i64 32]) 77 2 0 [] (.slice none 0 0)) := by
    subst hX
    exact ⟨⟨rfl, rfl, rfl, Nat.le_refl _, fun _ _ _ => rfl⟩, heap_second _ _ _ _, World.ownsRow_nil _ _ _ _⟩
  have HZ0 : Hid (((w.alloc (.cells #[.slice none 0 0, .slice none 0 0, .slice none 0 0, .int .i64 0, .int .i64 0, .int .i64 0, .int .i64 0, .int .i64 0] 67)).alloc (.cells #[.slice none 0 0, .slice none 0 0, .slice none 0 0, .int .i64 500, .int .i64 200, .int .i64 1, .int .i64 64, .int .i64 32] 67)).heap[w.heap.size]? = some (.cells #[.slice none 0 0, .slice none 0 0, .slice none 0 0, .int .i64 0, .int .i64 0, .int .i64 0, .int .i64 0, .int .i64 0] 67 (0, 0))) := keepA (heap_alloc_new _ _) _
  have HB0 : Hid (Below w.heap.size w ((w.alloc (.cells #[.slice none 0 0, .slice none 0 0, .slice none 0 0, .int .i64 0, .int .i64 0, .int .i64 0, .int .i64 0, .int .i64 0] 67)).alloc (.cells #[.slice none 0 0, .slice none 0 0, .slice none 0 0, .int .i64 500, .int .i64 200, .int .i64 1, .int .i64 64, .int .i64 32] 67))) := ((Below.refl _ _).alloc (Nat.le_refl _) _).alloc (by simp) _
  have HXW : Hid (w.heap.size < X ∧ X < ((w.alloc (.cells #[.slice none 0 0, .slice none 0 0, .slice none 0 0, .int .i64 0, .int .i64 0, .int .i64 0, .int .i64 0, .int .i64 0] 67)).alloc (.cells #[.slice none 0 0, .slice none 0 0, .slice none 0 0, .int .i64 500, .int .i64 200, .int .i64 1, .int .i64 64, .int .i64 32] 67)).heap.size) := by show _ ∧ _; rw [← hX]; simp
  have b1 : (nm : Int) ≤ 16 := by have := N1.out.2; omega
  have b2 : (ns : Int) ≤ 8 := by have := N2.out.2; omega
  have b3 : (nc : Int) ≤ 4 := by have := N3.out.2; omega
  go_enter Try.func47, Try.ntmps47
  go_wp2_with fail
  (try rw [hX])
  clear hX
  generalize (w.alloc (.cells #[.slice none 0 0, .slice none 0 0, .slice none 0 0, .int .i64 0, .int .i64 0, .int .i64 0, .int .i64 0, .int .i64 0] 67)).alloc (.cells #[.slice none 0 0, .slice none 0 0, .slice none 0 0, .int .i64 500, .int .i64 200, .int .i64 1, .int .i64 64, .int .i64 32] 67) = w3 at *
  have HXB1 : Hid (X < w3.heap.size) := HXW.out.2
  go_loopw [8] (fun iv wr => ∃ i : Nat, i ≤ nm ∧ iv = .int .i64 i ∧ Hid (∃ v, Lp w3 wr X (fun v => #[v, .slice none 0 0, .slice none 0 0, .int .i64 500, .int .i64 200, .int .i64 1, .int .i64 64, .int .i64 32]) 77 2 i (prs (.int .i64 1000) (.int .i64 100) i) v)) (fun iv _ => nm - (intOf iv).toNat)
  case atStart => exact ⟨0, Nat.zero_le _, rfl, _, HL0.out⟩
  case round =>
    clear HL0
    obtain ⟨i, hi, rfl, HL⟩ := hrel
    have hi2 : (i : Int) ≤ (nm : Int) := by omega
    obtain ⟨v, hl⟩ := HL.out
    have HLP := Lib.hid hl
    obtain ⟨ao, cap, rfl, _⟩ := row_view hl.row
    have HXX : Hid (X < w3.heap.size) := HXB1.out
    by_cases hlt : i < nm
    · have hlt2 : (i : Int) < nm := by omega
      obtain ⟨hl1, hl2⟩ := L1.out i hlt
      have g1 : decide ((i : Int) < 16) = true := decide_eq_true (by omega)
      have g2 : decide (i < 16) = true := decide_eq_true hl1
      have k2 : wr.cell? ⟨X, 0, none⟩ = some (.slice ao i cap) := (eight_read hl.here).1
      have HIL := Lib.hid hlt
      have HI4 : Hid (i + 1 ≤ 100) := by show _ ≤ _; omega
      clear hl hlt hi HL hl1
      rcases hl2 with hl2 | ⟨hl2, hl3⟩
      · have g3 : decide ((i : Int) < a) = true := decide_eq_true hl2
        go_wp2_with (at_builtin; refine wpList_append_lies _ rfl _ _ 63 rfl w3.heap.size 77 im (.agg #[.int .i64 0, .int .i64 0]) 2 16 Try.underlying63 hinfm hzm0 hzm1 hzm2 rfl (by decide) (.slice ao i cap) i (prs (.int .i64 1000) (.int .i64 100) i) rfl (World.ownsRow.alloc HLP.out.row _) ⟨wr.heap.size, 0, none⟩ 1 1 [.int .i64 1000, .int .i64 100] rfl rfl ?a1 ?a2 (by decide) ?a3 ?a4 ?a5 _ rfl ?_)
        case a1 => exact news_two _ (heap_alloc_new _ _)
        case a2 => intro u hu; simp at hu; rcases hu with rfl | rfl <;> rfl
        case a3 => unfold maxLen; have := HI4.out; omega
        case a4 => have := HI4.out; omega
        case a5 => have := HLP.out.grown.size; simp; omega
        intro gz capz w5 hown hgrow hat _
        have hn := Lp.next (idx := 0) HLP.out HXX.out (by rfl) hown hgrow
        have hx5 : w5.heap[X]? = some (.cells ((fun v => #[v, .slice none 0 0, .slice none 0 0, .int .i64 500, .int .i64 200, .int .i64 1, .int .i64 64, .int .i64 32]) (.slice ao i cap)) 67 (0, 0)) := (hgrow.block X (by have := HLP.out.grown.size; have := HXX.out; simp; omega) (fun e => by have := (World.ownsRow.lt HLP.out.row X e.symm).1; have := HXX.out; omega)).trans ((Below.heap_alloc _ _ _ (by have := HLP.out.grown.size; have := HXX.out; omega)).trans HLP.out.here)
        have k5 : w5.cell? ⟨X, 0, none⟩ = some (.slice ao i cap) := (eight_read hx5).1
        have f5 := eight_free hx5 0
        rw [← prs_succ] at hn
        have HN := Lib.hid hn
        clear hn hx5 hown hgrow hat k2
        go_wp2_with fail
        go_roundw
        case rel => exact ⟨i + 1, HIL.out, by go_num, _, HN.out⟩
        case measure => have := HIL.out; simp [intOf]; omega
      · have g3 : decide ((i : Int) < a) = false := decide_eq_false (by omega)
        have g4 : decide ((i : Int) < 2) = true := decide_eq_true (by omega)
        have g5 : decide (i < 2) = true := decide_eq_true hl3
        go_wp2_with (at_builtin; refine wpList_append_lies _ rfl _ _ 63 rfl w3.heap.size 77 im (.agg #[.int .i64 0, .int .i64 0]) 2 16 Try.underlying63 hinfm hzm0 hzm1 hzm2 rfl (by decide) (.slice ao i cap) i (prs (.int .i64 1000) (.int .i64 100) i) rfl (World.ownsRow.alloc HLP.out.row _) ⟨wr.heap.size, 0, none⟩ 1 1 [.int .i64 1000, .int .i64 100] rfl rfl ?a1 ?a2 (by decide) ?a3 ?a4 ?a5 _ rfl ?_)
        case a1 => exact news_two _ (heap_alloc_new _ _)
        case a2 => intro u hu; simp at hu; rcases hu with rfl | rfl <;> rfl
        case a3 => unfold maxLen; have := HI4.out; omega
        case a4 => have := HI4.out; omega
        case a5 => have := HLP.out.grown.size; simp; omega
        intro gz capz w5 hown hgrow hat _
        have hn := Lp.next (idx := 0) HLP.out HXX.out (by rfl) hown hgrow
        have hx5 : w5.heap[X]? = some (.cells ((fun v => #[v, .slice none 0 0, .slice none 0 0, .int .i64 500, .int .i64 200, .int .i64 1, .int .i64 64, .int .i64 32]) (.slice ao i cap)) 67 (0, 0)) := (hgrow.block X (by have := HLP.out.grown.size; have := HXX.out; simp; omega) (fun e => by have := (World.ownsRow.lt HLP.out.row X e.symm).1; have := HXX.out; omega)).trans ((Below.heap_alloc _ _ _ (by have := HLP.out.grown.size; have := HXX.out; omega)).trans HLP.out.here)
        have k5 : w5.cell? ⟨X, 0, none⟩ = some (.slice ao i cap) := (eight_read hx5).1
        have f5 := eight_free hx5 0
        rw [← prs_succ] at hn
        have HN := Lib.hid hn
        clear hn hx5 hown hgrow hat k2
        go_wp2_with fail
        go_roundw
        case rel => exact ⟨i + 1, HIL.out, by go_num, _, HN.out⟩
        case measure => have := HIL.out; simp [intOf]; omega
    · have hin : nm = i := by omega
      subst hin
      have he := E1.out nm rfl
      clear hlt hi hi2 HL
      rcases he with he | ⟨he1, he2, he3⟩
      · have g1 : decide ((nm : Int) < 16) = false := decide_eq_false (by omega)
        have g2 : decide (nm < 16) = false := decide_eq_false he
        clear he
        obtain ⟨w4, rfl⟩ : ∃ x, x = wr := ⟨_, rfl⟩
        have HLP1 := HLP
        obtain ⟨ao1, hao⟩ : ∃ x, x = ao := ⟨_, rfl⟩
        obtain ⟨cap1, hcap⟩ : ∃ x, x = cap := ⟨_, rfl⟩
        subst hao
        subst hcap
        have HXB2 : Hid (X < w4.heap.size) := lt_of_block HLP1.out.here
        have HL0 : Hid (Lp w4 w4 X (fun v => #[.slice ao1 nm cap1, v, .slice none 0 0, .int .i64 500, .int .i64 200, .int .i64 1, .int .i64 64, .int .i64 32]) 81 2 0 [] (.slice none 0 0)) := ⟨⟨rfl, rfl, rfl, Nat.le_refl _, fun _ _ _ => rfl⟩, HLP1.out.here, World.ownsRow_nil _ _ _ _⟩
        clear hl HLP
        go_wp2_with fail
        go_loopw [9] (fun iv wr => ∃ i : Nat, i ≤ ns ∧ iv = .int .i64 i ∧ Hid (∃ v, Lp w4 wr X (fun v => #[.slice ao1 nm cap1, v, .slice none 0 0, .int .i64 500, .int .i64 200, .int .i64 1, .int .i64 64, .int .i64 32]) 81 2 i (prs (.int .i64 10) (.int .i64 12) i) v)) (fun iv _ => ns - (intOf iv).toNat)
        case atStart => exact ⟨0, Nat.zero_le _, rfl, _, HL0.out⟩
        case round =>
          clear HL0
          obtain ⟨i, hi, rfl, HL⟩ := hrel
          have hi2 : (i : Int) ≤ (ns : Int) := by omega
          obtain ⟨v, hl⟩ := HL.out
          have HLP := Lib.hid hl
          obtain ⟨ao, cap, rfl, _⟩ := row_view hl.row
          have HXX : Hid (X < w4.heap.size) := HXB2.out
          by_cases hlt : i < ns
          · have hlt2 : (i : Int) < ns := by omega
            obtain ⟨hl1, hl2⟩ := L2.out i hlt
            have g1 : decide ((i : Int) < 8) = true := decide_eq_true (by omega)
            have g2 : decide (i < 8) = true := decide_eq_true hl1
            have k2 : wr.cell? ⟨X, 1, none⟩ = some (.slice ao i cap) := (eight_read hl.here).2.1
            have HIL := Lib.hid hlt
            have HI4 : Hid (i + 1 ≤ 100) := by show _ ≤ _; omega
            clear hl hlt hi HL hl1
            rcases hl2 with hl2 | ⟨hl2, hl3⟩
            · have g3 : decide ((i : Int) < b) = true := decide_eq_true hl2
              go_wp2_with (at_builtin; refine wpList_append_lies _ rfl _ _ 64 rfl w4.heap.size 81 is (.agg #[.int .i64 0, .int .i64 0]) 2 16 Try.underlying64 hinfs hzs0 hzs1 hzs2 rfl (by decide) (.slice ao i cap) i (prs (.int .i64 10) (.int .i64 12) i) rfl (World.ownsRow.alloc HLP.out.row _) ⟨wr.heap.size, 0, none⟩ 1 1 [.int .i64 10, .int .i64 12] rfl rfl ?a1 ?a2 (by decide) ?a3 ?a4 ?a5 _ rfl ?_)
              case a1 => exact news_two _ (heap_alloc_new _ _)
              case a2 => intro u hu; simp at hu; rcases hu with rfl | rfl <;> rfl
              case a3 => unfold maxLen; have := HI4.out; omega
              case a4 => have := HI4.out; omega
              case a5 => have := HLP.out.grown.size; simp; omega
              intro gz capz w5 hown hgrow hat _
              have hn := Lp.next (idx := 1) HLP.out HXX.out (by rfl) hown hgrow
              have hx5 : w5.heap[X]? = some (.cells ((fun v => #[.slice ao1 nm cap1, v, .slice none 0 0, .int .i64 500, .int .i64 200, .int .i64 1, .int .i64 64, .int .i64 32]) (.slice ao i cap)) 67 (0, 0)) := (hgrow.block X (by have := HLP.out.grown.size; have := HXX.out; simp; omega) (fun e => by have := (World.ownsRow.lt HLP.out.row X e.symm).1; have := HXX.out; omega)).trans ((Below.heap_alloc _ _ _ (by have := HLP.out.grown.size; have := HXX.out; omega)).trans HLP.out.here)
              have k5 : w5.cell? ⟨X, 1, none⟩ = some (.slice ao i cap) := (eight_read hx5).2.1
              have f5 := eight_free hx5 1
              rw [← prs_succ] at hn
              have HN := Lib.hid hn
              clear hn hx5 hown hgrow hat k2
              go_wp2_with fail
              go_roundw
              case rel => exact ⟨i + 1, HIL.out, by go_num, _, HN.out⟩
              case measure => have := HIL.out; simp [intOf]; omega
            · have g3 : decide ((i : Int) < b) = false := decide_eq_false (by omega)
              have g4 : decide ((i : Int) < 1) = true := decide_eq_true (by omega)
              have g5 : decide (i < 1) = true := decide_eq_true hl3
              go_wp2_with (at_builtin; refine wpList_append_lies _ rfl _ _ 64 rfl w4.heap.size 81 is (.agg #[.int .i64 0, .int .i64 0]) 2 16 Try.underlying64 hinfs hzs0 hzs1 hzs2 rfl (by decide) (.slice ao i cap) i (prs (.int .i64 10) (.int .i64 12) i) rfl (World.ownsRow.alloc HLP.out.row _) ⟨wr.heap.size, 0, none⟩ 1 1 [.int .i64 10, .int .i64 12] rfl rfl ?a1 ?a2 (by decide) ?a3 ?a4 ?a5 _ rfl ?_)
              case a1 => exact news_two _ (heap_alloc_new _ _)
              case a2 => intro u hu; simp at hu; rcases hu with rfl | rfl <;> rfl
              case a3 => unfold maxLen; have := HI4.out; omega
              case a4 => have := HI4.out; omega
              case a5 => have := HLP.out.grown.size; simp; omega
              intro gz capz w5 hown hgrow hat _
              have hn := Lp.next (idx := 1) HLP.out HXX.out (by rfl) hown hgrow
              have hx5 : w5.heap[X]? = some (.cells ((fun v => #[.slice ao1 nm cap1, v, .slice none 0 0, .int .i64 500, .int .i64 200, .int .i64 1, .int .i64 64, .int .i64 32]) (.slice ao i cap)) 67 (0, 0)) := (hgrow.block X (by have := HLP.out.grown.size; have := HXX.out; simp; omega) (fun e => by have := (World.ownsRow.lt HLP.out.row X e.symm).1; have := HXX.out; omega)).trans ((Below.heap_alloc _ _ _ (by have := HLP.out.grown.size; have := HXX.out; omega)).trans HLP.out.here)
              have k5 : w5.cell? ⟨X, 1, none⟩ = some (.slice ao i cap) := (eight_read hx5).2.1
              have f5 := eight_free hx5 1
              rw [← prs_succ] at hn
              have HN := Lib.hid hn
              clear hn hx5 hown hgrow hat k2
              go_wp2_with fail
              go_roundw
              case rel => exact ⟨i + 1, HIL.out, by go_num, _, HN.out⟩
              case measure => have := HIL.out; simp [intOf]; omega
          · have hin : ns = i := by omega
            subst hin
            have he := E2.out ns rfl
            clear hlt hi hi2 HL
            rcases he with he | ⟨he1, he2, he3⟩
            · have g1 : decide ((ns : Int) < 8) = false := decide_eq_false (by omega)
              have g2 : decide (ns < 8) = false := decide_eq_false he
              clear he
              obtain ⟨w6, rfl⟩ : ∃ x, x = wr := ⟨_, rfl⟩
              have HLP2 := HLP
              obtain ⟨ao2, hao⟩ : ∃ x, x = ao := ⟨_, rfl⟩
              obtain ⟨cap2, hcap⟩ : ∃ x, x = cap := ⟨_, rfl⟩
              subst hao
              subst hcap
              have HXB3 : Hid (X < w6.heap.size) := lt_of_block HLP2.out.here
              have HL0 : Hid (Lp w6 w6 X (fun v => #[.slice ao1 nm cap1, .slice ao2 ns cap2, v, .int .i64 500, .int .i64 200, .int .i64 1, .int .i64 64, .int .i64 32]) 74 4 0 [] (.slice none 0 0)) := ⟨⟨rfl, rfl, rfl, Nat.le_refl _, fun _ _ _ => rfl⟩, HLP2.out.here, World.ownsRow_nil _ _ _ _⟩
              clear hl HLP
              go_wp2_with fail
              go_loopw [10] (fun iv wr => ∃ i : Nat, i ≤ nc ∧ iv = .int .i64 i ∧ Hid (∃ v, Lp w6 wr X (fun v => #[.slice ao1 nm cap1, .slice ao2 ns cap2, v, .int .i64 500, .int .i64 200, .int .i64 1, .int .i64 64, .int .i64 32]) 74 4 i (cyL i) v)) (fun iv _ => nc - (intOf iv).toNat)
              case atStart => exact ⟨0, Nat.zero_le _, rfl, _, HL0.out⟩
              case round =>
                clear HL0
                obtain ⟨i, hi, rfl, HL⟩ := hrel
                have hi2 : (i : Int) ≤ (nc : Int) := by omega
                obtain ⟨v, hl⟩ := HL.out
                have HLP := Lib.hid hl
                obtain ⟨ao, cap, rfl, _⟩ := row_view hl.row
                have HXX : Hid (X < w6.heap.size) := HXB3.out
                by_cases hlt : i < nc
                · have hlt2 : (i : Int) < nc := by omega
                  obtain ⟨hl1, hl2⟩ := L3.out i hlt
                  have g1 : decide ((i : Int) < 4) = true := decide_eq_true (by omega)
                  have g2 : decide (i < 4) = true := decide_eq_true hl1
                  have k2 : wr.cell? ⟨X, 2, none⟩ = some (.slice ao i cap) := (eight_read hl.here).2.2.1
                  have HIL := Lib.hid hlt
                  have HI4 : Hid (i + 1 ≤ 100) := by show _ ≤ _; omega
                  clear hl hlt hi HL hl1
                  rcases hl2 with hl2 | ⟨hl2, hl3⟩
                  · have g3 : decide ((i : Int) < d) = true := decide_eq_true hl2
                    go_wp2_with (at_builtin; refine wpList_append_lies _ rfl _ _ 65 rfl w6.heap.size 74 ic (.agg #[.int .i64 0, .int .i64 0, .int .i64 0, .int .i64 0]) 4 32 Try.underlying65 hinfc hzc0 hzc1 hzc2 rfl (by decide) (.slice ao i cap) i (cyL i) rfl (World.ownsRow.alloc HLP.out.row _) ⟨wr.heap.size, 0, none⟩ 1 1 [.int .i64 (10 * (i : Int) + 4), .int .i64 (10 * (i : Int) + 7), .int .i64 (10 * (i : Int) + 9), .int .i64 (10 * (i : Int) + 10)] rfl rfl ?a1 ?a2 (by decide) ?a3 ?a4 ?a5 _ rfl ?_)
                    case a1 => exact news_four _ _ _ _ _ _ _ rfl
                    case a2 => intro u hu; simp at hu; rcases hu with rfl | rfl | rfl | rfl <;> rfl
                    case a3 => unfold maxLen; have := HI4.out; omega
                    case a4 => have := HI4.out; omega
                    case a5 => have := HLP.out.grown.size; simp; omega
                    intro gz capz w5 hown hgrow hat _
                    have hn := Lp.next (idx := 2) HLP.out HXX.out (by rfl) hown hgrow
                    have hx5 : w5.heap[X]? = some (.cells ((fun v => #[.slice ao1 nm cap1, .slice ao2 ns cap2, v, .int .i64 500, .int .i64 200, .int .i64 1, .int .i64 64, .int .i64 32]) (.slice ao i cap)) 67 (0, 0)) := (hgrow.block X (by have := HLP.out.grown.size; have := HXX.out; simp; omega) (fun e => by have := (World.ownsRow.lt HLP.out.row X e.symm).1; have := HXX.out; omega)).trans ((Below.heap_alloc _ _ _ (by have := HLP.out.grown.size; have := HXX.out; omega)).trans HLP.out.here)
                    have k5 : w5.cell? ⟨X, 2, none⟩ = some (.slice ao i cap) := (eight_read hx5).2.2.1
                    have f5 := eight_free hx5 2
                    have HN := Lib.hid hn
                    clear hn hx5 hown hgrow hat k2
                    go_wp2_with fail
                    go_roundw
                    case rel => exact ⟨i + 1, HIL.out, by go_num, _, HN.out⟩
                    case measure => have := HIL.out; simp [intOf]; omega
                  · have g3 : decide ((i : Int) < d) = false := decide_eq_false (by omega)
                    have g4 : decide ((i : Int) < 1) = true := decide_eq_true (by omega)
                    have g5 : decide (i < 1) = true := decide_eq_true hl3
                    go_wp2_with (at_builtin; refine wpList_append_lies _ rfl _ _ 65 rfl w6.heap.size 74 ic (.agg #[.int .i64 0, .int .i64 0, .int .i64 0, .int .i64 0]) 4 32 Try.underlying65 hinfc hzc0 hzc1 hzc2 rfl (by decide) (.slice ao i cap) i (cyL i) rfl (World.ownsRow.alloc HLP.out.row _) ⟨wr.heap.size, 0, none⟩ 1 1 [.int .i64 (10 * (i : Int) + 4), .int .i64 (10 * (i : Int) + 7), .int .i64 (10 * (i : Int) + 9), .int .i64 (10 * (i : Int) + 10)] rfl rfl ?a1 ?a2 (by decide) ?a3 ?a4 ?a5 _ rfl ?_)
                    case a1 => exact news_four _ _ _ _ _ _ _ rfl
                    case a2 => intro u hu; simp at hu; rcases hu with rfl | rfl | rfl | rfl <;> rfl
                    case a3 => unfold maxLen; have := HI4.out; omega
                    case a4 => have := HI4.out; omega
                    case a5 => have := HLP.out.grown.size; simp; omega
                    intro gz capz w5 hown hgrow hat _
                    have hn := Lp.next (idx := 2) HLP.out HXX.out (by rfl) hown hgrow
                    have hx5 : w5.heap[X]? = some (.cells ((fun v => #[.slice ao1 nm cap1, .slice ao2 ns cap2, v, .int .i64 500, .int .i64 200, .int .i64 1, .int .i64 64, .int .i64 32]) (.slice ao i cap)) 67 (0, 0)) := (hgrow.block X (by have := HLP.out.grown.size; have := HXX.out; simp; omega) (fun e => by have := (World.ownsRow.lt HLP.out.row X e.symm).1; have := HXX.out; omega)).trans ((Below.heap_alloc _ _ _ (by have := HLP.out.grown.size; have := HXX.out; omega)).trans HLP.out.here)
                    have k5 : w5.cell? ⟨X, 2, none⟩ = some (.slice ao i cap) := (eight_read hx5).2.2.1
                    have f5 := eight_free hx5 2
                    have HN := Lib.hid hn
                    clear hn hx5 hown hgrow hat k2
                    go_wp2_with fail
                    go_roundw
                    case rel => exact ⟨i + 1, HIL.out, by go_num, _, HN.out⟩
                    case measure => have := HIL.out; simp [intOf]; omega
                · have hin : nc = i := by omega
                  subst hin
                  have he := E3.out nc rfl
                  clear hlt hi hi2 HL
                  rcases he with he | ⟨he1, he2, he3⟩
                  · have g1 : decide ((nc : Int) < 4) = false := decide_eq_false (by omega)
                    have g2 : decide (nc < 4) = false := decide_eq_false he
                    clear he
                    have hz := (HLP.out.grown.block w.heap.size (by have := HLP.out.grown.size; have h1 := HLP1.out.grown.size; have h2 := HLP2.out.grown.size; have := HXW.out; omega) (fun e => by injection e with e; have := HXW.out; omega)).trans ((HLP2.out.grown.block w.heap.size (by have h1 := HLP1.out.grown.size; have := HXW.out; omega) (fun e => by injection e with e; have := HXW.out; omega)).trans ((HLP1.out.grown.block w.heap.size (by have := HXW.out; omega) (fun e => by injection e with e; have := HXW.out; omega)).trans HZ0.out))
                    obtain ⟨x0, x1, x2, x3, x4, x5, x6, x7⟩ := eight_read hl.here
                    obtain ⟨z0, z1, z2, z3, z4, z5, z6, z7⟩ := eight_read hz
                    have y0 := eight_free hz 0
                    have y1 := eight_free hz 1
                    have y2 := eight_free hz 2
                    have y3 := eight_free hz 3
                    have y4 := eight_free hz 4
                    have y5 := eight_free hz 5
                    have y6 := eight_free hz 6
                    have y7 := eight_free hz 7
                    obtain ⟨f0, f1, f2, f3, f4, f5, f6, f7⟩ := eight_read (eight_set hz (.slice ao1 nm cap1) (.slice ao2 ns cap2) (.slice ao nc cap) (.int .i64 500) (.int .i64 200) (.int .i64 1) (.int .i64 64) (.int .i64 32))
                    have hg := eight_grown wr w.heap.size (.slice ao1 nm cap1) (.slice ao2 ns cap2) (.slice ao nc cap) (.int .i64 500) (.int .i64 200) (.int .i64 1) (.int .i64 64) (.int .i64 32)
                    have hb3 : w.heap.size < w3.heap.size := by have := HXW.out; omega
                    have hb4 : w.heap.size < w4.heap.size := Nat.lt_of_lt_of_le hb3 HLP1.out.grown.size
                    have hb6 : w.heap.size < w6.heap.size := Nat.lt_of_lt_of_le hb4 HLP2.out.grown.size
                    have HFM := Lib.hid (row_two (row_kept (row_kept (row_kept HLP1.out.row HLP2.out.grown HXB1.out) HLP.out.grown HXB1.out) hg hb3))
                    have HFS := Lib.hid (row_two (row_kept (row_kept HLP2.out.row HLP.out.grown HXB2.out) hg hb4))
                    have HFC := Lib.hid (row_four (row_kept HLP.out.row hg hb6))
                    have HBA := grown_bel HB0.out (Nat.le_of_lt HXW.out.1) HB0.out.size HLP1.out.grown
                    have HBB := grown_bel HBA (Nat.le_of_lt HXW.out.1) HBA.size HLP2.out.grown
                    have HBC := grown_bel HBB (Nat.le_of_lt HXW.out.1) HBB.size HLP.out.grown
                    have HFB := Lib.hid (grown_bel HBC (Nat.le_refl _) HBC.size hg)
                    clear hl hz hg HBA HBB HBC hb3 hb4 hb6
                    go_wp2_with fail
                    (try simp only [Exit.inBlock, Exit.then])
                    refine bodyPost_ret (v := .agg #[.slice ao1 nm cap1, .slice ao2 ns cap2, .slice ao nc cap, .int .i64 500, .int .i64 200, .int .i64 1, .int .i64 64, .int .i64 32]) (by simp [results, Try.results47, go_sem, f0, f1, f2, f3, f4, f5, f6, f7]) rfl ?_
                    exact ⟨HFB.out, _, _, _, _, _, _, rfl, HFM.out, HFS.out, HFC.out, by have := N1.out; have := N2.out; have := N3.out; show nm ≤ 1000 ∧ ns ≤ 1000 ∧ nc ≤ 1000; omega⟩
                  · have g1 : decide ((nc : Int) < 4) = true := decide_eq_true (by omega)
                    have g2 : decide (nc < 4) = true := decide_eq_true he1
                    have g3 : decide ((nc : Int) < d) = false := decide_eq_false (by omega)
                    have g4 : decide ((nc : Int) < 1) = false := decide_eq_false (by omega)
                    have g5 : decide (nc < 1) = false := decide_eq_false he3
                    clear he1 he2 he3
                    have hz := (HLP.out.grown.block w.heap.size (by have := HLP.out.grown.size; have h1 := HLP1.out.grown.size; have h2 := HLP2.out.grown.size; have := HXW.out; omega) (fun e => by injection e with e; have := HXW.out; omega)).trans ((HLP2.out.grown.block w.heap.size (by have h1 := HLP1.out.grown.size; have := HXW.out; omega) (fun e => by injection e with e; have := HXW.out; omega)).trans ((HLP1.out.grown.block w.heap.size (by have := HXW.out; omega) (fun e => by injection e with e; have := HXW.out; omega)).trans HZ0.out))
                    obtain ⟨x0, x1, x2, x3, x4, x5, x6, x7⟩ := eight_read hl.here
                    obtain ⟨z0, z1, z2, z3, z4, z5, z6, z7⟩ := eight_read hz
                    have y0 := eight_free hz 0
                    have y1 := eight_free hz 1
                    have y2 := eight_free hz 2
                    have y3 := eight_free hz 3
                    have y4 := eight_free hz 4
                    have y5 := eight_free hz 5
                    have y6 := eight_free hz 6
                    have y7 := eight_free hz 7
                    obtain ⟨f0, f1, f2, f3, f4, f5, f6, f7⟩ := eight_read (eight_set hz (.slice ao1 nm cap1) (.slice ao2 ns cap2) (.slice ao nc cap) (.int .i64 500) (.int .i64 200) (.int .i64 1) (.int .i64 64) (.int .i64 32))
                    have hg := eight_grown wr w.heap.size (.slice ao1 nm cap1) (.slice ao2 ns cap2) (.slice ao nc cap) (.int .i64 500) (.int .i64 200) (.int .i64 1) (.int .i64 64) (.int .i64 32)
                    have hb3 : w.heap.size < w3.heap.size := by have := HXW.out; omega
                    have hb4 : w.heap.size < w4.heap.size := Nat.lt_of_lt_of_le hb3 HLP1.out.grown.size
                    have hb6 : w.heap.size < w6.heap.size := Nat.lt_of_lt_of_le hb4 HLP2.out.grown.size
                    have HFM := Lib.hid (row_two (row_kept (row_kept (row_kept HLP1.out.row HLP2.out.grown HXB1.out) HLP.out.grown HXB1.out) hg hb3))
                    have HFS := Lib.hid (row_two (row_kept (row_kept HLP2.out.row HLP.out.grown HXB2.out) hg hb4))
                    have HFC := Lib.hid (row_four (row_kept HLP.out.row hg hb6))
                    have HBA := grown_bel HB0.out (Nat.le_of_lt HXW.out.1) HB0.out.size HLP1.out.grown
                    have HBB := grown_bel HBA (Nat.le_of_lt HXW.out.1) HBA.size HLP2.out.grown
                    have HBC := grown_bel HBB (Nat.le_of_lt HXW.out.1) HBB.size HLP.out.grown
                    have HFB := Lib.hid (grown_bel HBC (Nat.le_refl _) HBC.size hg)
                    clear hl hz hg HBA HBB HBC hb3 hb4 hb6
                    go_wp2_with fail
                    (try simp only [Exit.inBlock, Exit.then])
                    refine bodyPost_ret (v := .agg #[.slice ao1 nm cap1, .slice ao2 ns cap2, .slice ao nc cap, .int .i64 500, .int .i64 200, .int .i64 1, .int .i64 64, .int .i64 32]) (by simp [results, Try.results47, go_sem, f0, f1, f2, f3, f4, f5, f6, f7]) rfl ?_
                    exact ⟨HFB.out, _, _, _, _, _, _, rfl, HFM.out, HFS.out, HFC.out, by have := N1.out; have := N2.out; have := N3.out; show nm ≤ 1000 ∧ ns ≤ 1000 ∧ nc ≤ 1000; omega⟩
            · have g1 : decide ((ns : Int) < 8) = true := decide_eq_true (by omega)
              have g2 : decide (ns < 8) = true := decide_eq_true he1
              have g3 : decide ((ns : Int) < b) = false := decide_eq_false (by omega)
              have g4 : decide ((ns : Int) < 1) = false := decide_eq_false (by omega)
              have g5 : decide (ns < 1) = false := decide_eq_false he3
              clear he1 he2 he3
              obtain ⟨w6, rfl⟩ : ∃ x, x = wr := ⟨_, rfl⟩
              have HLP2 := HLP
              obtain ⟨ao2, hao⟩ : ∃ x, x = ao := ⟨_, rfl⟩
              obtain ⟨cap2, hcap⟩ : ∃ x, x = cap := ⟨_, rfl⟩
              subst hao
              subst hcap
              have HXB3 : Hid (X < w6.heap.size) := lt_of_block HLP2.out.here
              have HL0 : Hid (Lp w6 w6 X (fun v => #[.slice ao1 nm cap1, .slice ao2 ns cap2, v, .int .i64 500, .int .i64 200, .int .i64 1, .int .i64 64, .int .i64 32]) 74 4 0 [] (.slice none 0 0)) := ⟨⟨rfl, rfl, rfl, Nat.le_refl _, fun _ _ _ => rfl⟩, HLP2.out.here, World.ownsRow_nil _ _ _ _⟩
              clear hl HLP
              go_wp2_with fail
              go_loopw [10] (fun iv wr => ∃ i : Nat, i ≤ nc ∧ iv = .int .i64 i ∧ Hid (∃ v, Lp w6 wr X (fun v => #[.slice ao1 nm cap1, .slice ao2 ns cap2, v, .int .i64 500, .int .i64 200, .int .i64 1, .int .i64 64, .int .i64 32]) 74 4 i (cyL i) v)) (fun iv _ => nc - (intOf iv).toNat)
              case atStart => exact ⟨0, Nat.zero_le _, rfl, _, HL0.out⟩
              case round =>
                clear HL0
                obtain ⟨i, hi, rfl, HL⟩ := hrel
                have hi2 : (i : Int) ≤ (nc : Int) := by omega
                obtain ⟨v, hl⟩ := HL.out
                have HLP := Lib.hid hl
                obtain ⟨ao, cap, rfl, _⟩ := row_view hl.row
                have HXX : Hid (X < w6.heap.size) := HXB3.out
                by_cases hlt : i < nc
                · have hlt2 : (i : Int) < nc := by omega
                  obtain ⟨hl1, hl2⟩ := L3.out i hlt
                  have g1 : decide ((i : Int) < 4) = true := decide_eq_true (by omega)
                  have g2 : decide (i < 4) = true := decide_eq_true hl1
                  have k2 : wr.cell? ⟨X, 2, none⟩ = some (.slice ao i cap) := (eight_read hl.here).2.2.1
                  have HIL := Lib.hid hlt
                  have HI4 : Hid (i + 1 ≤ 100) := by show _ ≤ _; omega
                  clear hl hlt hi HL hl1
                  rcases hl2 with hl2 | ⟨hl2, hl3⟩
                  · have g3 : decide ((i : Int) < d) = true := decide_eq_true hl2
                    go_wp2_with (at_builtin; refine wpList_append_lies _ rfl _ _ 65 rfl w6.heap.size 74 ic (.agg #[.int .i64 0, .int .i64 0, .int .i64 0, .int .i64 0]) 4 32 Try.underlying65 hinfc hzc0 hzc1 hzc2 rfl (by decide) (.slice ao i cap) i (cyL i) rfl (World.ownsRow.alloc HLP.out.row _) ⟨wr.heap.size, 0, none⟩ 1 1 [.int .i64 (10 * (i : Int) + 4), .int .i64 (10 * (i : Int) + 7), .int .i64 (10 * (i : Int) + 9), .int .i64 (10 * (i : Int) + 10)] rfl rfl ?a1 ?a2 (by decide) ?a3 ?a4 ?a5 _ rfl ?_)
                    case a1 => exact news_four _ _ _ _ _ _ _ rfl
                    case a2 => intro u hu; simp at hu; rcases hu with rfl | rfl | rfl | rfl <;> rfl
                    case a3 => unfold maxLen; have := HI4.out; omega
                    case a4 => have := HI4.out; omega
                    case a5 => have := HLP.out.grown.size; simp; omega
                    intro gz capz w5 hown hgrow hat _
                    have hn := Lp.next (idx := 2) HLP.out HXX.out (by rfl) hown hgrow
                    have hx5 : w5.heap[X]? = some (.cells ((fun v => #[.slice ao1 nm cap1, .slice ao2 ns cap2, v, .int .i64 500, .int .i64 200, .int .i64 1, .int .i64 64, .int .i64 32]) (.slice ao i cap)) 67 (0, 0)) := (hgrow.block X (by have := HLP.out.grown.size; have := HXX.out; simp; omega) (fun e => by have := (World.ownsRow.lt HLP.out.row X e.symm).1; have := HXX.out; omega)).trans ((Below.heap_alloc _ _ _ (by have := HLP.out.grown.size; have := HXX.out; omega)).trans HLP.out.here)
                    have k5 : w5.cell? ⟨X, 2, none⟩ = some (.slice ao i cap) := (eight_read hx5).2.2.1
                    have f5 := eight_free hx5 2
                    have HN := Lib.hid hn
                    clear hn hx5 hown hgrow hat k2
                    go_wp2_with fail
                    go_roundw
                    case rel => exact ⟨i + 1, HIL.out, by go_num, _, HN.out⟩
                    case measure => have := HIL.out; simp [intOf]; omega
                  · have g3 : decide ((i : Int) < d) = false := decide_eq_false (by omega)
                    have g4 : decide ((i : Int) < 1) = true := decide_eq_true (by omega)
                    have g5 : decide (i < 1) = true := decide_eq_true hl3
                    go_wp2_with (at_builtin; refine wpList_append_lies _ rfl _ _ 65 rfl w6.heap.size 74 ic (.agg #[.int .i64 0, .int .i64 0, .int .i64 0, .int .i64 0]) 4 32 Try.underlying65 hinfc hzc0 hzc1 hzc2 rfl (by decide) (.slice ao i cap) i (cyL i) rfl (World.ownsRow.alloc HLP.out.row _) ⟨wr.heap.size, 0, none⟩ 1 1 [.int .i64 (10 * (i : Int) + 4), .int .i64 (10 * (i : Int) + 7), .int .i64 (10 * (i : Int) + 9), .int .i64 (10 * (i : Int) + 10)] rfl rfl ?a1 ?a2 (by decide) ?a3 ?a4 ?a5 _ rfl ?_)
                    case a1 => exact news_four _ _ _ _ _ _ _ rfl
                    case a2 => intro u hu; simp at hu; rcases hu with rfl | rfl | rfl | rfl <;> rfl
                    case a3 => unfold maxLen; have := HI4.out; omega
                    case a4 => have := HI4.out; omega
                    case a5 => have := HLP.out.grown.size; simp; omega
                    intro gz capz w5 hown hgrow hat _
                    have hn := Lp.next (idx := 2) HLP.out HXX.out (by rfl) hown hgrow
                    have hx5 : w5.heap[X]? = some (.cells ((fun v => #[.slice ao1 nm cap1, .slice ao2 ns cap2, v, .int .i64 500, .int .i64 200, .int .i64 1, .int .i64 64, .int .i64 32]) (.slice ao i cap)) 67 (0, 0)) := (hgrow.block X (by have := HLP.out.grown.size; have := HXX.out; simp; omega) (fun e => by have := (World.ownsRow.lt HLP.out.row X e.symm).1; have := HXX.out; omega)).trans ((Below.heap_alloc _ _ _ (by have := HLP.out.grown.size; have := HXX.out; omega)).trans HLP.out.here)
                    have k5 : w5.cell? ⟨X, 2, none⟩ = some (.slice ao i cap) := (eight_read hx5).2.2.1
                    have f5 := eight_free hx5 2
                    have HN := Lib.hid hn
                    clear hn hx5 hown hgrow hat k2
                    go_wp2_with fail
                    go_roundw
                    case rel => exact ⟨i + 1, HIL.out, by go_num, _, HN.out⟩
                    case measure => have := HIL.out; simp [intOf]; omega
                · have hin : nc = i := by omega
                  subst hin
                  have he := E3.out nc rfl
                  clear hlt hi hi2 HL
                  rcases he with he | ⟨he1, he2, he3⟩
                  · have g1 : decide ((nc : Int) < 4) = false := decide_eq_false (by omega)
                    have g2 : decide (nc < 4) = false := decide_eq_false he
                    clear he
                    have hz := (HLP.out.grown.block w.heap.size (by have := HLP.out.grown.size; have h1 := HLP1.out.grown.size; have h2 := HLP2.out.grown.size; have := HXW.out; omega) (fun e => by injection e with e; have := HXW.out; omega)).trans ((HLP2.out.grown.block w.heap.size (by have h1 := HLP1.out.grown.size; have := HXW.out; omega) (fun e => by injection e with e; have := HXW.out; omega)).trans ((HLP1.out.grown.block w.heap.size (by have := HXW.out; omega) (fun e => by injection e with e; have := HXW.out; omega)).trans HZ0.out))
                    obtain ⟨x0, x1, x2, x3, x4, x5, x6, x7⟩ := eight_read hl.here
                    obtain ⟨z0, z1, z2, z3, z4, z5, z6, z7⟩ := eight_read hz
                    have y0 := eight_free hz 0
                    have y1 := eight_free hz 1
                    have y2 := eight_free hz 2
                    have y3 := eight_free hz 3
                    have y4 := eight_free hz 4
                    have y5 := eight_free hz 5
                    have y6 := eight_free hz 6
                    have y7 := eight_free hz 7
                    obtain ⟨f0, f1, f2, f3, f4, f5, f6, f7⟩ := eight_read (eight_set hz (.slice ao1 nm cap1) (.slice ao2 ns cap2) (.slice ao nc cap) (.int .i64 500) (.int .i64 200) (.int .i64 1) (.int .i64 64) (.int .i64 32))
                    have hg := eight_grown wr w.heap.size (.slice ao1 nm cap1) (.slice ao2 ns cap2) (.slice ao nc cap) (.int .i64 500) (.int .i64 200) (.int .i64 1) (.int .i64 64) (.int .i64 32)
                    have hb3 : w.heap.size < w3.heap.size := by have := HXW.out; omega
                    have hb4 : w.heap.size < w4.heap.size := Nat.lt_of_lt_of_le hb3 HLP1.out.grown.size
                    have hb6 : w.heap.size < w6.heap.size := Nat.lt_of_lt_of_le hb4 HLP2.out.grown.size
                    have HFM := Lib.hid (row_two (row_kept (row_kept (row_kept HLP1.out.row HLP2.out.grown HXB1.out) HLP.out.grown HXB1.out) hg hb3))
                    have HFS := Lib.hid (row_two (row_kept (row_kept HLP2.out.row HLP.out.grown HXB2.out) hg hb4))
                    have HFC := Lib.hid (row_four (row_kept HLP.out.row hg hb6))
                    have HBA := grown_bel HB0.out (Nat.le_of_lt HXW.out.1) HB0.out.size HLP1.out.grown
                    have HBB := grown_bel HBA (Nat.le_of_lt HXW.out.1) HBA.size HLP2.out.grown
                    have HBC := grown_bel HBB (Nat.le_of_lt HXW.out.1) HBB.size HLP.out.grown
                    have HFB := Lib.hid (grown_bel HBC (Nat.le_refl _) HBC.size hg)
                    clear hl hz hg HBA HBB HBC hb3 hb4 hb6
                    go_wp2_with fail
                    (try simp only [Exit.inBlock, Exit.then])
                    refine bodyPost_ret (v := .agg #[.slice ao1 nm cap1, .slice ao2 ns cap2, .slice ao nc cap, .int .i64 500, .int .i64 200, .int .i64 1, .int .i64 64, .int .i64 32]) (by simp [results, Try.results47, go_sem, f0, f1, f2, f3, f4, f5, f6, f7]) rfl ?_
                    exact ⟨HFB.out, _, _, _, _, _, _, rfl, HFM.out, HFS.out, HFC.out, by have := N1.out; have := N2.out; have := N3.out; show nm ≤ 1000 ∧ ns ≤ 1000 ∧ nc ≤ 1000; omega⟩
                  · have g1 : decide ((nc : Int) < 4) = true := decide_eq_true (by omega)
                    have g2 : decide (nc < 4) = true := decide_eq_true he1
                    have g3 : decide ((nc : Int) < d) = false := decide_eq_false (by omega)
                    have g4 : decide ((nc : Int) < 1) = false := decide_eq_false (by omega)
                    have g5 : decide (nc < 1) = false := decide_eq_false he3
                    clear he1 he2 he3
                    have hz := (HLP.out.grown.block w.heap.size (by have := HLP.out.grown.size; have h1 := HLP1.out.grown.size; have h2 := HLP2.out.grown.size; have := HXW.out; omega) (fun e => by injection e with e; have := HXW.out; omega)).trans ((HLP2.out.grown.block w.heap.size (by have h1 := HLP1.out.grown.size; have := HXW.out; omega) (fun e => by injection e with e; have := HXW.out; omega)).trans ((HLP1.out.grown.block w.heap.size (by have := HXW.out; omega) (fun e => by injection e with e; have := HXW.out; omega)).trans HZ0.out))
                    obtain ⟨x0, x1, x2, x3, x4, x5, x6, x7⟩ := eight_read hl.here
                    obtain ⟨z0, z1, z2, z3, z4, z5, z6, z7⟩ := eight_read hz
                    have y0 := eight_free hz 0
                    have y1 := eight_free hz 1
                    have y2 := eight_free hz 2
                    have y3 := eight_free hz 3
                    have y4 := eight_free hz 4
                    have y5 := eight_free hz 5
                    have y6 := eight_free hz 6
                    have y7 := eight_free hz 7
                    obtain ⟨f0, f1, f2, f3, f4, f5, f6, f7⟩ := eight_read (eight_set hz (.slice ao1 nm cap1) (.slice ao2 ns cap2) (.slice ao nc cap) (.int .i64 500) (.int .i64 200) (.int .i64 1) (.int .i64 64) (.int .i64 32))
                    have hg := eight_grown wr w.heap.size (.slice ao1 nm cap1) (.slice ao2 ns cap2) (.slice ao nc cap) (.int .i64 500) (.int .i64 200) (.int .i64 1) (.int .i64 64) (.int .i64 32)
                    have hb3 : w.heap.size < w3.heap.size := by have := HXW.out; omega
                    have hb4 : w.heap.size < w4.heap.size := Nat.lt_of_lt_of_le hb3 HLP1.out.grown.size
                    have hb6 : w.heap.size < w6.heap.size := Nat.lt_of_lt_of_le hb4 HLP2.out.grown.size
                    have HFM := Lib.hid (row_two (row_kept (row_kept (row_kept HLP1.out.row HLP2.out.grown HXB1.out) HLP.out.grown HXB1.out) hg hb3))
                    have HFS := Lib.hid (row_two (row_kept (row_kept HLP2.out.row HLP.out.grown HXB2.out) hg hb4))
                    have HFC := Lib.hid (row_four (row_kept HLP.out.row hg hb6))
                    have HBA := grown_bel HB0.out (Nat.le_of_lt HXW.out.1) HB0.out.size HLP1.out.grown
                    have HBB := grown_bel HBA (Nat.le_of_lt HXW.out.1) HBA.size HLP2.out.grown
                    have HBC := grown_bel HBB (Nat.le_of_lt HXW.out.1) HBB.size HLP.out.grown
                    have HFB := Lib.hid (grown_bel HBC (Nat.le_refl _) HBC.size hg)
                    clear hl hz hg HBA HBB HBC hb3 hb4 hb6
                    go_wp2_with fail
                    (try simp only [Exit.inBlock, Exit.then])
                    refine bodyPost_ret (v := .agg #[.slice ao1 nm cap1, .slice ao2 ns cap2, .slice ao nc cap, .int .i64 500, .int .i64 200, .int .i64 1, .int .i64 64, .int .i64 32]) (by simp [results, Try.results47, go_sem, f0, f1, f2, f3, f4, f5, f6, f7]) rfl ?_
                    exact ⟨HFB.out, _, _, _, _, _, _, rfl, HFM.out, HFS.out, HFC.out, by have := N1.out; have := N2.out; have := N3.out; show nm ≤ 1000 ∧ ns ≤ 1000 ∧ nc ≤ 1000; omega⟩
      · have g1 : decide ((nm : Int) < 16) = true := decide_eq_true (by omega)
        have g2 : decide (nm < 16) = true := decide_eq_true he1
        have g3 : decide ((nm : Int) < a) = false := decide_eq_false (by omega)
        have g4 : decide ((nm : Int) < 2) = false := decide_eq_false (by omega)
        have g5 : decide (nm < 2) = false := decide_eq_false he3
        clear he1 he2 he3
        obtain ⟨w4, rfl⟩ : ∃ x, x = wr := ⟨_, rfl⟩
        have HLP1 := HLP
        obtain ⟨ao1, hao⟩ : ∃ x, x = ao := ⟨_, rfl⟩
        obtain ⟨cap1, hcap⟩ : ∃ x, x = cap := ⟨_, rfl⟩
        subst hao
        subst hcap
        have HXB2 : Hid (X < w4.heap.size) := lt_of_block HLP1.out.here
        have HL0 : Hid (Lp w4 w4 X (fun v => #[.slice ao1 nm cap1, v, .slice none 0 0, .int .i64 500, .int .i64 200, .int .i64 1, .int .i64 64, .int .i64 32]) 81 2 0 [] (.slice none 0 0)) := ⟨⟨rfl, rfl, rfl, Nat.le_refl _, fun _ _ _ => rfl⟩, HLP1.out.here, World.ownsRow_nil _ _ _ _⟩
        clear hl HLP
        go_wp2_with fail
        go_loopw [9] (fun iv wr => ∃ i : Nat, i ≤ ns ∧ iv = .int .i64 i ∧ Hid (∃ v, Lp w4 wr X (fun v => #[.slice ao1 nm cap1, v, .slice none 0 0, .int .i64 500, .int .i64 200, .int .i64 1, .int .i64 64, .int .i64 32]) 81 2 i (prs (.int .i64 10) (.int .i64 12) i) v)) (fun iv _ => ns - (intOf iv).toNat)
        case atStart => exact ⟨0, Nat.zero_le _, rfl, _, HL0.out⟩
        case round =>
          clear HL0
          obtain ⟨i, hi, rfl, HL⟩ := hrel
          have hi2 : (i : Int) ≤ (ns : Int) := by omega
          obtain ⟨v, hl⟩ := HL.out
          have HLP := Lib.hid hl
          obtain ⟨ao, cap, rfl, _⟩ := row_view hl.row
          have HXX : Hid (X < w4.heap.size) := HXB2.out
          by_cases hlt : i < ns
          · have hlt2 : (i : Int) < ns := by omega
            obtain ⟨hl1, hl2⟩ := L2.out i hlt
            have g1 : decide ((i : Int) < 8) = true := decide_eq_true (by omega)
            have g2 : decide (i < 8) = true := decide_eq_true hl1
            have k2 : wr.cell? ⟨X, 1, none⟩ = some (.slice ao i cap) := (eight_read hl.here).2.1
            have HIL := Lib.hid hlt
            have HI4 : Hid (i + 1 ≤ 100) := by show _ ≤ _; omega
            clear hl hlt hi HL hl1
            rcases hl2 with hl2 | ⟨hl2, hl3⟩
            · have g3 : decide ((i : Int) < b) = true := decide_eq_true hl2
              go_wp2_with (at_builtin; refine wpList_append_lies _ rfl _ _ 64 rfl w4.heap.size 81 is (.agg #[.int .i64 0, .int .i64 0]) 2 16 Try.underlying64 hinfs hzs0 hzs1 hzs2 rfl (by decide) (.slice ao i cap) i (prs (.int .i64 10) (.int .i64 12) i) rfl (World.ownsRow.alloc HLP.out.row _) ⟨wr.heap.size, 0, none⟩ 1 1 [.int .i64 10, .int .i64 12] rfl rfl ?a1 ?a2 (by decide) ?a3 ?a4 ?a5 _ rfl ?_)
              case a1 => exact news_two _ (heap_alloc_new _ _)
              case a2 => intro u hu; simp at hu; rcases hu with rfl | rfl <;> rfl
              case a3 => unfold maxLen; have := HI4.out; omega
              case a4 => have := HI4.out; omega
              case a5 => have := HLP.out.grown.size; simp; omega
              intro gz capz w5 hown hgrow hat _
              have hn := Lp.next (idx := 1) HLP.out HXX.out (by rfl) hown hgrow
              have hx5 : w5.heap[X]? = some (.cells ((fun v => #[.slice ao1 nm cap1, v, .slice none 0 0, .int .i64 500, .int .i64 200, .int .i64 1, .int .i64 64, .int .i64 32]) (.slice ao i cap)) 67 (0, 0)) := (hgrow.block X (by have := HLP.out.grown.size; have := HXX.out; simp; omega) (fun e => by have := (World.ownsRow.lt HLP.out.row X e.symm).1; have := HXX.out; omega)).trans ((Below.heap_alloc _ _ _ (by have := HLP.out.grown.size; have := HXX.out; omega)).trans HLP.out.here)
              have k5 : w5.cell? ⟨X, 1, none⟩ = some (.slice ao i cap) := (eight_read hx5).2.1
              have f5 := eight_free hx5 1
              rw [← prs_succ] at hn
              have HN := Lib.hid hn
              clear hn hx5 hown hgrow hat k2
              go_wp2_with fail
              go_roundw
              case rel => exact ⟨i + 1, HIL.out, by go_num, _, HN.out⟩
              case measure => have := HIL.out; simp [intOf]; omega
            · have g3 : decide ((i : Int) < b) = false := decide_eq_false (by omega)
              have g4 : decide ((i : Int) < 1) = true := decide_eq_true (by omega)
              have g5 : decide (i < 1) = true := decide_eq_true hl3
              go_wp2_with (at_builtin; refine wpList_append_lies _ rfl _ _ 64 rfl w4.heap.size 81 is (.agg #[.int .i64 0, .int .i64 0]) 2 16 Try.underlying64 hinfs hzs0 hzs1 hzs2 rfl (by decide) (.slice ao i cap) i (prs (.int .i64 10) (.int .i64 12) i) rfl (World.ownsRow.alloc HLP.out.row _) ⟨wr.heap.size, 0, none⟩ 1 1 [.int .i64 10, .int .i64 12] rfl rfl ?a1 ?a2 (by decide) ?a3 ?a4 ?a5 _ rfl ?_)
              case a1 => exact news_two _ (heap_alloc_new _ _)
              case a2 => intro u hu; simp at hu; rcases hu with rfl | rfl <;> rfl
              case a3 => unfold maxLen; have := HI4.out; omega
              case a4 => have := HI4.out; omega
              case a5 => have := HLP.out.grown.size; simp; omega
              intro gz capz w5 hown hgrow hat _
              have hn := Lp.next (idx := 1) HLP.out HXX.out (by rfl) hown hgrow
              have hx5 : w5.heap[X]? = some (.cells ((fun v => #[.slice ao1 nm cap1, v, .slice none 0 0, .int .i64 500, .int .i64 200, .int .i64 1, .int .i64 64, .int .i64 32]) (.slice ao i cap)) 67 (0, 0)) := (hgrow.block X (by have := HLP.out.grown.size; have := HXX.out; simp; omega) (fun e => by have := (World.ownsRow.lt HLP.out.row X e.symm).1; have := HXX.out; omega)).trans ((Below.heap_alloc _ _ _ (by have := HLP.out.grown.size; have := HXX.out; omega)).trans HLP.out.here)
              have k5 : w5.cell? ⟨X, 1, none⟩ = some (.slice ao i cap) := (eight_read hx5).2.1
              have f5 := eight_free hx5 1
              rw [← prs_succ] at hn
              have HN := Lib.hid hn
              clear hn hx5 hown hgrow hat k2
              go_wp2_with fail
              go_roundw
              case rel => exact ⟨i + 1, HIL.out, by go_num, _, HN.out⟩
              case measure => have := HIL.out; simp [intOf]; omega
          · have hin : ns = i := by omega
            subst hin
            have he := E2.out ns rfl
            clear hlt hi hi2 HL
            rcases he with he | ⟨he1, he2, he3⟩
            · have g1 : decide ((ns : Int) < 8) = false := decide_eq_false (by omega)
              have g2 : decide (ns < 8) = false := decide_eq_false he
              clear he
              obtain ⟨w6, rfl⟩ : ∃ x, x = wr := ⟨_, rfl⟩
              have HLP2 := HLP
              obtain ⟨ao2, hao⟩ : ∃ x, x = ao := ⟨_, rfl⟩
              obtain ⟨cap2, hcap⟩ : ∃ x, x = cap := ⟨_, rfl⟩
              subst hao
              subst hcap
              have HXB3 : Hid (X < w6.heap.size) := lt_of_block HLP2.out.here
              have HL0 : Hid (Lp w6 w6 X (fun v => #[.slice ao1 nm cap1, .slice ao2 ns cap2, v, .int .i64 500, .int .i64 200, .int .i64 1, .int .i64 64, .int .i64 32]) 74 4 0 [] (.slice none 0 0)) := ⟨⟨rfl, rfl, rfl, Nat.le_refl _, fun _ _ _ => rfl⟩, HLP2.out.here, World.ownsRow_nil _ _ _ _⟩
              clear hl HLP
              go_wp2_with fail
              go_loopw [10] (fun iv wr => ∃ i : Nat, i ≤ nc ∧ iv = .int .i64 i ∧ Hid (∃ v, Lp w6 wr X (fun v => #[.slice ao1 nm cap1, .slice ao2 ns cap2, v, .int .i64 500, .int .i64 200, .int .i64 1, .int .i64 64, .int .i64 32]) 74 4 i (cyL i) v)) (fun iv _ => nc - (intOf iv).toNat)
              case atStart => exact ⟨0, Nat.zero_le _, rfl, _, HL0.out⟩
              case round =>
                clear HL0
                obtain ⟨i, hi, rfl, HL⟩ := hrel
                have hi2 : (i : Int) ≤ (nc : Int) := by omega
                obtain ⟨v, hl⟩ := HL.out
                have HLP := Lib.hid hl
                obtain ⟨ao, cap, rfl, _⟩ := row_view hl.row
                have HXX : Hid (X < w6.heap.size) := HXB3.out
                by_cases hlt : i < nc
                · have hlt2 : (i : Int) < nc := by omega
                  obtain ⟨hl1, hl2⟩ := L3.out i hlt
                  have g1 : decide ((i : Int) < 4) = true := decide_eq_true (by omega)
                  have g2 : decide (i < 4) = true := decide_eq_true hl1
                  have k2 : wr.cell? ⟨X, 2, none⟩ = some (.slice ao i cap) := (eight_read hl.here).2.2.1
                  have HIL := Lib.hid hlt
                  have HI4 : Hid (i + 1 ≤ 100) := by show _ ≤ _; omega
                  clear hl hlt hi HL hl1
                  rcases hl2 with hl2 | ⟨hl2, hl3⟩
                  · have g3 : decide ((i : Int) < d) = true := decide_eq_true hl2
                    go_wp2_with (at_builtin; refine wpList_append_lies _ rfl _ _ 65 rfl w6.heap.size 74 ic (.agg #[.int .i64 0, .int .i64 0, .int .i64 0, .int .i64 0]) 4 32 Try.underlying65 hinfc hzc0 hzc1 hzc2 rfl (by decide) (.slice ao i cap) i (cyL i) rfl (World.ownsRow.alloc HLP.out.row _) ⟨wr.heap.size, 0, none⟩ 1 1 [.int .i64 (10 * (i : Int) + 4), .int .i64 (10 * (i : Int) + 7), .int .i64 (10 * (i : Int) + 9), .int .i64 (10 * (i : Int) + 10)] rfl rfl ?a1 ?a2 (by decide) ?a3 ?a4 ?a5 _ rfl ?_)
                    case a1 => exact news_four _ _ _ _ _ _ _ rfl
                    case a2 => intro u hu; simp at hu; rcases hu with rfl | rfl | rfl | rfl <;> rfl
                    case a3 => unfold maxLen; have := HI4.out; omega
                    case a4 => have := HI4.out; omega
                    case a5 => have := HLP.out.grown.size; simp; omega
                    intro gz capz w5 hown hgrow hat _
                    have hn := Lp.next (idx := 2) HLP.out HXX.out (by rfl) hown hgrow
                    have hx5 : w5.heap[X]? = some (.cells ((fun v => #[.slice ao1 nm cap1, .slice ao2 ns cap2, v, .int .i64 500, .int .i64 200, .int .i64 1, .int .i64 64, .int .i64 32]) (.slice ao i cap)) 67 (0, 0)) := (hgrow.block X (by have := HLP.out.grown.size; have := HXX.out; simp; omega) (fun e => by have := (World.ownsRow.lt HLP.out.row X e.symm).1; have := HXX.out; omega)).trans ((Below.heap_alloc _ _ _ (by have := HLP.out.grown.size; have := HXX.out; omega)).trans HLP.out.here)
                    have k5 : w5.cell? ⟨X, 2, none⟩ = some (.slice ao i cap) := (eight_read hx5).2.2.1
                    have f5 := eight_free hx5 2
                    have HN := Lib.hid hn
                    clear hn hx5 hown hgrow hat k2
                    go_wp2_with fail
                    go_roundw
                    case rel => exact ⟨i + 1, HIL.out, by go_num, _, HN.out⟩
                    case measure => have := HIL.out; simp [intOf]; omega
                  · have g3 : decide ((i : Int) < d) = false := decide_eq_false (by omega)
                    have g4 : decide ((i : Int) < 1) = true := decide_eq_true (by omega)
                    have g5 : decide (i < 1) = true := decide_eq_true hl3
                    go_wp2_with (at_builtin; refine wpList_append_lies _ rfl _ _ 65 rfl w6.heap.size 74 ic (.agg #[.int .i64 0, .int .i64 0, .int .i64 0, .int .i64 0]) 4 32 Try.underlying65 hinfc hzc0 hzc1 hzc2 rfl (by decide) (.slice ao i cap) i (cyL i) rfl (World.ownsRow.alloc HLP.out.row _) ⟨wr.heap.size, 0, none⟩ 1 1 [.int .i64 (10 * (i : Int) + 4), .int .i64 (10 * (i : Int) + 7), .int .i64 (10 * (i : Int) + 9), .int .i64 (10 * (i : Int) + 10)] rfl rfl ?a1 ?a2 (by decide) ?a3 ?a4 ?a5 _ rfl ?_)
                    case a1 => exact news_four _ _ _ _ _ _ _ rfl
                    case a2 => intro u hu; simp at hu; rcases hu with rfl | rfl | rfl | rfl <;> rfl
                    case a3 => unfold maxLen; have := HI4.out; omega
                    case a4 => have := HI4.out; omega
                    case a5 => have := HLP.out.grown.size; simp; omega
                    intro gz capz w5 hown hgrow hat _
                    have hn := Lp.next (idx := 2) HLP.out HXX.out (by rfl) hown hgrow
                    have hx5 : w5.heap[X]? = some (.cells ((fun v => #[.slice ao1 nm cap1, .slice ao2 ns cap2, v, .int .i64 500, .int .i64 200, .int .i64 1, .int .i64 64, .int .i64 32]) (.slice ao i cap)) 67 (0, 0)) := (hgrow.block X (by have := HLP.out.grown.size; have := HXX.out; simp; omega) (fun e => by have := (World.ownsRow.lt HLP.out.row X e.symm).1; have := HXX.out; omega)).trans ((Below.heap_alloc _ _ _ (by have := HLP.out.grown.size; have := HXX.out; omega)).trans HLP.out.here)
                    have k5 : w5.cell? ⟨X, 2, none⟩ = some (.slice ao i cap) := (eight_read hx5).2.2.1
                    have f5 := eight_free hx5 2
                    have HN := Lib.hid hn
                    clear hn hx5 hown hgrow hat k2
                    go_wp2_with fail
                    go_roundw
                    case rel => exact ⟨i + 1, HIL.out, by go_num, _, HN.out⟩
                    case measure => have := HIL.out; simp [intOf]; omega
                · have hin : nc = i := by omega
                  subst hin
                  have he := E3.out nc rfl
                  clear hlt hi hi2 HL
                  rcases he with he | ⟨he1, he2, he3⟩
                  · have g1 : decide ((nc : Int) < 4) = false := decide_eq_false (by omega)
                    have g2 : decide (nc < 4) = false := decide_eq_false he
                    clear he
                    have hz := (HLP.out.grown.block w.heap.size (by have := HLP.out.grown.size; have h1 := HLP1.out.grown.size; have h2 := HLP2.out.grown.size; have := HXW.out; omega) (fun e => by injection e with e; have := HXW.out; omega)).trans ((HLP2.out.grown.block w.heap.size (by have h1 := HLP1.out.grown.size; have := HXW.out; omega) (fun e => by injection e with e; have := HXW.out; omega)).trans ((HLP1.out.grown.block w.heap.size (by have := HXW.out; omega) (fun e => by injection e with e; have := HXW.out; omega)).trans HZ0.out))
                    obtain ⟨x0, x1, x2, x3, x4, x5, x6, x7⟩ := eight_read hl.here
                    obtain ⟨z0, z1, z2, z3, z4, z5, z6, z7⟩ := eight_read hz
                    have y0 := eight_free hz 0
                    have y1 := eight_free hz 1
                    have y2 := eight_free hz 2
                    have y3 := eight_free hz 3
                    have y4 := eight_free hz 4
                    have y5 := eight_free hz 5
                    have y6 := eight_free hz 6
                    have y7 := eight_free hz 7
                    obtain ⟨f0, f1, f2, f3, f4, f5, f6, f7⟩ := eight_read (eight_set hz (.slice ao1 nm cap1) (.slice ao2 ns cap2) (.slice ao nc cap) (.int .i64 500) (.int .i64 200) (.int .i64 1) (.int .i64 64) (.int .i64 32))
                    have hg := eight_grown wr w.heap.size (.slice ao1 nm cap1) (.slice ao2 ns cap2) (.slice ao nc cap) (.int .i64 500) (.int .i64 200) (.int .i64 1) (.int .i64 64) (.int .i64 32)
                    have hb3 : w.heap.size < w3.heap.size := by have := HXW.out; omega
                    have hb4 : w.heap.size < w4.heap.size := Nat.lt_of_lt_of_le hb3 HLP1.out.grown.size
                    have hb6 : w.heap.size < w6.heap.size := Nat.lt_of_lt_of_le hb4 HLP2.out.grown.size
                    have HFM := Lib.hid (row_two (row_kept (row_kept (row_kept HLP1.out.row HLP2.out.grown HXB1.out) HLP.out.grown HXB1.out) hg hb3))
                    have HFS := Lib.hid (row_two (row_kept (row_kept HLP2.out.row HLP.out.grown HXB2.out) hg hb4))
                    have HFC := Lib.hid (row_four (row_kept HLP.out.row hg hb6))
                    have HBA := grown_bel HB0.out (Nat.le_of_lt HXW.out.1) HB0.out.size HLP1.out.grown
                    have HBB := grown_bel HBA (Nat.le_of_lt HXW.out.1) HBA.size HLP2.out.grown
                    have HBC := grown_bel HBB (Nat.le_of_lt HXW.out.1) HBB.size HLP.out.grown
                    have HFB := Lib.hid (grown_bel HBC (Nat.le_refl _) HBC.size hg)
                    clear hl hz hg HBA HBB HBC hb3 hb4 hb6
                    go_wp2_with fail
                    (try simp only [Exit.inBlock, Exit.then])
                    refine bodyPost_ret (v := .agg #[.slice ao1 nm cap1, .slice ao2 ns cap2, .slice ao nc cap, .int .i64 500, .int .i64 200, .int .i64 1, .int .i64 64, .int .i64 32]) (by simp [results, Try.results47, go_sem, f0, f1, f2, f3, f4, f5, f6, f7]) rfl ?_
                    exact ⟨HFB.out, _, _, _, _, _, _, rfl, HFM.out, HFS.out, HFC.out, by have := N1.out; have := N2.out; have := N3.out; show nm ≤ 1000 ∧ ns ≤ 1000 ∧ nc ≤ 1000; omega⟩
                  · have g1 : decide ((nc : Int) < 4) = true := decide_eq_true (by omega)
                    have g2 : decide (nc < 4) = true := decide_eq_true he1
                    have g3 : decide ((nc : Int) < d) = false := decide_eq_false (by omega)
                    have g4 : decide ((nc : Int) < 1) = false := decide_eq_false (by omega)
                    have g5 : decide (nc < 1) = false := decide_eq_false he3
                    clear he1 he2 he3
                    have hz := (HLP.out.grown.block w.heap.size (by have := HLP.out.grown.size; have h1 := HLP1.out.grown.size; have h2 := HLP2.out.grown.size; have := HXW.out; omega) (fun e => by injection e with e; have := HXW.out; omega)).trans ((HLP2.out.grown.block w.heap.size (by have h1 := HLP1.out.grown.size; have := HXW.out; omega) (fun e => by injection e with e; have := HXW.out; omega)).trans ((HLP1.out.grown.block w.heap.size (by have := HXW.out; omega) (fun e => by injection e with e; have := HXW.out; omega)).trans HZ0.out))
                    obtain ⟨x0, x1, x2, x3, x4, x5, x6, x7⟩ := eight_read hl.here
                    obtain ⟨z0, z1, z2, z3, z4, z5, z6, z7⟩ := eight_read hz
                    have y0 := eight_free hz 0
                    have y1 := eight_free hz 1
                    have y2 := eight_free hz 2
                    have y3 := eight_free hz 3
                    have y4 := eight_free hz 4
                    have y5 := eight_free hz 5
                    have y6 := eight_free hz 6
                    have y7 := eight_free hz 7
                    obtain ⟨f0, f1, f2, f3, f4, f5, f6, f7⟩ := eight_read (eight_set hz (.slice ao1 nm cap1) (.slice ao2 ns cap2) (.slice ao nc cap) (.int .i64 500) (.int .i64 200) (.int .i64 1) (.int .i64 64) (.int .i64 32))
                    have hg := eight_grown wr w.heap.size (.slice ao1 nm cap1) (.slice ao2 ns cap2) (.slice ao nc cap) (.int .i64 500) (.int .i64 200) (.int .i64 1) (.int .i64 64) (.int .i64 32)
                    have hb3 : w.heap.size < w3.heap.size := by have := HXW.out; omega
                    have hb4 : w.heap.size < w4.heap.size := Nat.lt_of_lt_of_le hb3 HLP1.out.grown.size
                    have hb6 : w.heap.size < w6.heap.size := Nat.lt_of_lt_of_le hb4 HLP2.out.grown.size
                    have HFM := Lib.hid (row_two (row_kept (row_kept (row_kept HLP1.out.row HLP2.out.grown HXB1.out) HLP.out.grown HXB1.out) hg hb3))
                    have HFS := Lib.hid (row_two (row_kept (row_kept HLP2.out.row HLP.out.grown HXB2.out) hg hb4))
                    have HFC := Lib.hid (row_four (row_kept HLP.out.row hg hb6))
                    have HBA := grown_bel HB0.out (Nat.le_of_lt HXW.out.1) HB0.out.size HLP1.out.grown
                    have HBB := grown_bel HBA (Nat.le_of_lt HXW.out.1) HBA.size HLP2.out.grown
                    have HBC := grown_bel HBB (Nat.le_of_lt HXW.out.1) HBB.size HLP.out.grown
                    have HFB := Lib.hid (grown_bel HBC (Nat.le_refl _) HBC.size hg)
                    clear hl hz hg HBA HBB HBC hb3 hb4 hb6
                    go_wp2_with fail
                    (try simp only [Exit.inBlock, Exit.then])
                    refine bodyPost_ret (v := .agg #[.slice ao1 nm cap1, .slice ao2 ns cap2, .slice ao nc cap, .int .i64 500, .int .i64 200, .int .i64 1, .int .i64 64, .int .i64 32]) (by simp [results, Try.results47, go_sem, f0, f1, f2, f3, f4, f5, f6, f7]) rfl ?_
                    exact ⟨HFB.out, _, _, _, _, _, _, rfl, HFM.out, HFS.out, HFC.out, by have := N1.out; have := N2.out; have := N3.out; show nm ≤ 1000 ∧ ns ≤ 1000 ∧ nc ≤ 1000; omega⟩
            · have g1 : decide ((ns : Int) < 8) = true := decide_eq_true (by omega)
              have g2 : decide (ns < 8) = true := decide_eq_true he1
              have g3 : decide ((ns : Int) < b) = false := decide_eq_false (by omega)
              have g4 : decide ((ns : Int) < 1) = false := decide_eq_false (by omega)
              have g5 : decide (ns < 1) = false := decide_eq_false he3
              clear he1 he2 he3
              obtain ⟨w6, rfl⟩ : ∃ x, x = wr := ⟨_, rfl⟩
              have HLP2 := HLP
              obtain ⟨ao2, hao⟩ : ∃ x, x = ao := ⟨_, rfl⟩
              obtain ⟨cap2, hcap⟩ : ∃ x, x = cap := ⟨_, rfl⟩
              subst hao
              subst hcap
              have HXB3 : Hid (X < w6.heap.size) := lt_of_block HLP2.out.here
              have HL0 : Hid (Lp w6 w6 X (fun v => #[.slice ao1 nm cap1, .slice ao2 ns cap2, v, .int .i64 500, .int .i64 200, .int .i64 1, .int .i64 64, .int .i64 32]) 74 4 0 [] (.slice none 0 0)) := ⟨⟨rfl, rfl, rfl, Nat.le_refl _, fun _ _ _ => rfl⟩, HLP2.out.here, World.ownsRow_nil _ _ _ _⟩
              clear hl HLP
              go_wp2_with fail
              go_loopw [10] (fun iv wr => ∃ i : Nat, i ≤ nc ∧ iv = .int .i64 i ∧ Hid (∃ v, Lp w6 wr X (fun v => #[.slice ao1 nm cap1, .slice ao2 ns cap2, v, .int .i64 500, .int .i64 200, .int .i64 1, .int .i64 64, .int .i64 32]) 74 4 i (cyL i) v)) (fun iv _ => nc - (intOf iv).toNat)
              case atStart => exact ⟨0, Nat.zero_le _, rfl, _, HL0.out⟩
              case round =>
                clear HL0
                obtain ⟨i, hi, rfl, HL⟩ := hrel
                have hi2 : (i : Int) ≤ (nc : Int) := by omega
                obtain ⟨v, hl⟩ := HL.out
                have HLP := Lib.hid hl
                obtain ⟨ao, cap, rfl, _⟩ := row_view hl.row
                have HXX : Hid (X < w6.heap.size) := HXB3.out
                by_cases hlt : i < nc
                · have hlt2 : (i : Int) < nc := by omega
                  obtain ⟨hl1, hl2⟩ := L3.out i hlt
                  have g1 : decide ((i : Int) < 4) = true := decide_eq_true (by omega)
                  have g2 : decide (i < 4) = true := decide_eq_true hl1
                  have k2 : wr.cell? ⟨X, 2, none⟩ = some (.slice ao i cap) := (eight_read hl.here).2.2.1
                  have HIL := Lib.hid hlt
                  have HI4 : Hid (i + 1 ≤ 100) := by show _ ≤ _; omega
                  clear hl hlt hi HL hl1
                  rcases hl2 with hl2 | ⟨hl2, hl3⟩
                  · have g3 : decide ((i : Int) < d) = true := decide_eq_true hl2
                    go_wp2_with (at_builtin; refine wpList_append_lies _ rfl _ _ 65 rfl w6.heap.size 74 ic (.agg #[.int .i64 0, .int .i64 0, .int .i64 0, .int .i64 0]) 4 32 Try.underlying65 hinfc hzc0 hzc1 hzc2 rfl (by decide) (.slice ao i cap) i (cyL i) rfl (World.ownsRow.alloc HLP.out.row _) ⟨wr.heap.size, 0, none⟩ 1 1 [.int .i64 (10 * (i : Int) + 4), .int .i64 (10 * (i : Int) + 7), .int .i64 (10 * (i : Int) + 9), .int .i64 (10 * (i : Int) + 10)] rfl rfl ?a1 ?a2 (by decide) ?a3 ?a4 ?a5 _ rfl ?_)
                    case a1 => exact news_four _ _ _ _ _ _ _ rfl
                    case a2 => intro u hu; simp at hu; rcases hu with rfl | rfl | rfl | rfl <;> rfl
                    case a3 => unfold maxLen; have := HI4.out; omega
                    case a4 => have := HI4.out; omega
                    case a5 => have := HLP.out.grown.size; simp; omega
                    intro gz capz w5 hown hgrow hat _
                    have hn := Lp.next (idx := 2) HLP.out HXX.out (by rfl) hown hgrow
                    have hx5 : w5.heap[X]? = some (.cells ((fun v => #[.slice ao1 nm cap1, .slice ao2 ns cap2, v, .int .i64 500, .int .i64 200, .int .i64 1, .int .i64 64, .int .i64 32]) (.slice ao i cap)) 67 (0, 0)) := (hgrow.block X (by have := HLP.out.grown.size; have := HXX.out; simp; omega) (fun e => by have := (World.ownsRow.lt HLP.out.row X e.symm).1; have := HXX.out; omega)).trans ((Below.heap_alloc _ _ _ (by have := HLP.out.grown.size; have := HXX.out; omega)).trans HLP.out.here)
                    have k5 : w5.cell? ⟨X, 2, none⟩ = some (.slice ao i cap) := (eight_read hx5).2.2.1
                    have f5 := eight_free hx5 2
                    have HN := Lib.hid hn
                    clear hn hx5 hown hgrow hat k2
                    go_wp2_with fail
                    go_roundw
                    case rel => exact ⟨i + 1, HIL.out, by go_num, _, HN.out⟩
                    case measure => have := HIL.out; simp [intOf]; omega
                  · have g3 : decide ((i : Int) < d) = false := decide_eq_false (by omega)
                    have g4 : decide ((i : Int) < 1) = true := decide_eq_true (by omega)
                    have g5 : decide (i < 1) = true := decide_eq_true hl3
                    go_wp2_with (at_builtin; refine wpList_append_lies _ rfl _ _ 65 rfl w6.heap.size 74 ic (.agg #[.int .i64 0, .int .i64 0, .int .i64 0, .int .i64 0]) 4 32 Try.underlying65 hinfc hzc0 hzc1 hzc2 rfl (by decide) (.slice ao i cap) i (cyL i) rfl (World.ownsRow.alloc HLP.out.row _) ⟨wr.heap.size, 0, none⟩ 1 1 [.int .i64 (10 * (i : Int) + 4), .int .i64 (10 * (i : Int) + 7), .int .i64 (10 * (i : Int) + 9), .int .i64 (10 * (i : Int) + 10)] rfl rfl ?a1 ?a2 (by decide) ?a3 ?a4 ?a5 _ rfl ?_)
                    case a1 => exact news_four _ _ _ _ _ _ _ rfl
                    case a2 => intro u hu; simp at hu; rcases hu with rfl | rfl | rfl | rfl <;> rfl
                    case a3 => unfold maxLen; have := HI4.out; omega
                    case a4 => have := HI4.out; omega
                    case a5 => have := HLP.out.grown.size; simp; omega
                    intro gz capz w5 hown hgrow hat _
                    have hn := Lp.next (idx := 2) HLP.out HXX.out (by rfl) hown hgrow
                    have hx5 : w5.heap[X]? = some (.cells ((fun v => #[.slice ao1 nm cap1, .slice ao2 ns cap2, v, .int .i64 500, .int .i64 200, .int .i64 1, .int .i64 64, .int .i64 32]) (.slice ao i cap)) 67 (0, 0)) := (hgrow.block X (by have := HLP.out.grown.size; have := HXX.out; simp; omega) (fun e => by have := (World.ownsRow.lt HLP.out.row X e.symm).1; have := HXX.out; omega)).trans ((Below.heap_alloc _ _ _ (by have := HLP.out.grown.size; have := HXX.out; omega)).trans HLP.out.here)
                    have k5 : w5.cell? ⟨X, 2, none⟩ = some (.slice ao i cap) := (eight_read hx5).2.2.1
                    have f5 := eight_free hx5 2
                    have HN := Lib.hid hn
                    clear hn hx5 hown hgrow hat k2
                    go_wp2_with fail
                    go_roundw
                    case rel => exact ⟨i + 1, HIL.out, by go_num, _, HN.out⟩
                    case measure => have := HIL.out; simp [intOf]; omega
                · have hin : nc = i := by omega
                  subst hin
                  have he := E3.out nc rfl
                  clear hlt hi hi2 HL
                  rcases he with he | ⟨he1, he2, he3⟩
                  · have g1 : decide ((nc : Int) < 4) = false := decide_eq_false (by omega)
                    have g2 : decide (nc < 4) = false := decide_eq_false he
                    clear he
                    have hz := (HLP.out.grown.block w.heap.size (by have := HLP.out.grown.size; have h1 := HLP1.out.grown.size; have h2 := HLP2.out.grown.size; have := HXW.out; omega) (fun e => by injection e with e; have := HXW.out; omega)).trans ((HLP2.out.grown.block w.heap.size (by have h1 := HLP1.out.grown.size; have := HXW.out; omega) (fun e => by injection e with e; have := HXW.out; omega)).trans ((HLP1.out.grown.block w.heap.size (by have := HXW.out; omega) (fun e => by injection e with e; have := HXW.out; omega)).trans HZ0.out))
                    obtain ⟨x0, x1, x2, x3, x4, x5, x6, x7⟩ := eight_read hl.here
                    obtain ⟨z0, z1, z2, z3, z4, z5, z6, z7⟩ := eight_read hz
                    have y0 := eight_free hz 0
                    have y1 := eight_free hz 1
                    have y2 := eight_free hz 2
                    have y3 := eight_free hz 3
                    have y4 := eight_free hz 4
                    have y5 := eight_free hz 5
                    have y6 := eight_free hz 6
                    have y7 := eight_free hz 7
                    obtain ⟨f0, f1, f2, f3, f4, f5, f6, f7⟩ := eight_read (eight_set hz (.slice ao1 nm cap1) (.slice ao2 ns cap2) (.slice ao nc cap) (.int .i64 500) (.int .i64 200) (.int .i64 1) (.int .i64 64) (.int .i64 32))
                    have hg := eight_grown wr w.heap.size (.slice ao1 nm cap1) (.slice ao2 ns cap2) (.slice ao nc cap) (.int .i64 500) (.int .i64 200) (.int .i64 1) (.int .i64 64) (.int .i64 32)
                    have hb3 : w.heap.size < w3.heap.size := by have := HXW.out; omega
                    have hb4 : w.heap.size < w4.heap.size := Nat.lt_of_lt_of_le hb3 HLP1.out.grown.size
                    have hb6 : w.heap.size < w6.heap.size := Nat.lt_of_lt_of_le hb4 HLP2.out.grown.size
                    have HFM := Lib.hid (row_two (row_kept (row_kept (row_kept HLP1.out.row HLP2.out.grown HXB1.out) HLP.out.grown HXB1.out) hg hb3))
                    have HFS := Lib.hid (row_two (row_kept (row_kept HLP2.out.row HLP.out.grown HXB2.out) hg hb4))
                    have HFC := Lib.hid (row_four (row_kept HLP.out.row hg hb6))
                    have HBA := grown_bel HB0.out (Nat.le_of_lt HXW.out.1) HB0.out.size HLP1.out.grown
                    have HBB := grown_bel HBA (Nat.le_of_lt HXW.out.1) HBA.size HLP2.out.grown
                    have HBC := grown_bel HBB (Nat.le_of_lt HXW.out.1) HBB.size HLP.out.grown
                    have HFB := Lib.hid (grown_bel HBC (Nat.le_refl _) HBC.size hg)
                    clear hl hz hg HBA HBB HBC hb3 hb4 hb6
                    go_wp2_with fail
                    (try simp only [Exit.inBlock, Exit.then])
                    refine bodyPost_ret (v := .agg #[.slice ao1 nm cap1, .slice ao2 ns cap2, .slice ao nc cap, .int .i64 500, .int .i64 200, .int .i64 1, .int .i64 64, .int .i64 32]) (by simp [results, Try.results47, go_sem, f0, f1, f2, f3, f4, f5, f6, f7]) rfl ?_
                    exact ⟨HFB.out, _, _, _, _, _, _, rfl, HFM.out, HFS.out, HFC.out, by have := N1.out; have := N2.out; have := N3.out; show nm ≤ 1000 ∧ ns ≤ 1000 ∧ nc ≤ 1000; omega⟩
                  · have g1 : decide ((nc : Int) < 4) = true := decide_eq_true (by omega)
                    have g2 : decide (nc < 4) = true := decide_eq_true he1
                    have g3 : decide ((nc : Int) < d) = false := decide_eq_false (by omega)
                    have g4 : decide ((nc : Int) < 1) = false := decide_eq_false (by omega)
                    have g5 : decide (nc < 1) = false := decide_eq_false he3
                    clear he1 he2 he3
                    have hz := (HLP.out.grown.block w.heap.size (by have := HLP.out.grown.size; have h1 := HLP1.out.grown.size; have h2 := HLP2.out.grown.size; have := HXW.out; omega) (fun e => by injection e with e; have := HXW.out; omega)).trans ((HLP2.out.grown.block w.heap.size (by have h1 := HLP1.out.grown.size; have := HXW.out; omega) (fun e => by injection e with e; have := HXW.out; omega)).trans ((HLP1.out.grown.block w.heap.size (by have := HXW.out; omega) (fun e => by injection e with e; have := HXW.out; omega)).trans HZ0.out))
                    obtain ⟨x0, x1, x2, x3, x4, x5, x6, x7⟩ := eight_read hl.here
                    obtain ⟨z0, z1, z2, z3, z4, z5, z6, z7⟩ := eight_read hz
                    have y0 := eight_free hz 0
                    have y1 := eight_free hz 1
                    have y2 := eight_free hz 2
                    have y3 := eight_free hz 3
                    have y4 := eight_free hz 4
                    have y5 := eight_free hz 5
                    have y6 := eight_free hz 6
                    have y7 := eight_free hz 7
                    obtain ⟨f0, f1, f2, f3, f4, f5, f6, f7⟩ := eight_read (eight_set hz (.slice ao1 nm cap1) (.slice ao2 ns cap2) (.slice ao nc cap) (.int .i64 500) (.int .i64 200) (.int .i64 1) (.int .i64 64) (.int .i64 32))
                    have hg := eight_grown wr w.heap.size (.slice ao1 nm cap1) (.slice ao2 ns cap2) (.slice ao nc cap) (.int .i64 500) (.int .i64 200) (.int .i64 1) (.int .i64 64) (.int .i64 32)
                    have hb3 : w.heap.size < w3.heap.size := by have := HXW.out; omega
                    have hb4 : w.heap.size < w4.heap.size := Nat.lt_of_lt_of_le hb3 HLP1.out.grown.size
                    have hb6 : w.heap.size < w6.heap.size := Nat.lt_of_lt_of_le hb4 HLP2.out.grown.size
                    have HFM := Lib.hid (row_two (row_kept (row_kept (row_kept HLP1.out.row HLP2.out.grown HXB1.out) HLP.out.grown HXB1.out) hg hb3))
                    have HFS := Lib.hid (row_two (row_kept (row_kept HLP2.out.row HLP.out.grown HXB2.out) hg hb4))
                    have HFC := Lib.hid (row_four (row_kept HLP.out.row hg hb6))
                    have HBA := grown_bel HB0.out (Nat.le_of_lt HXW.out.1) HB0.out.size HLP1.out.grown
                    have HBB := grown_bel HBA (Nat.le_of_lt HXW.out.1) HBA.size HLP2.out.grown
                    have HBC := grown_bel HBB (Nat.le_of_lt HXW.out.1) HBB.size HLP.out.grown
                    have HFB := Lib.hid (grown_bel HBC (Nat.le_refl _) HBC.size hg)
                    clear hl hz hg HBA HBB HBC hb3 hb4 hb6
                    go_wp2_with fail
                    (try simp only [Exit.inBlock, Exit.then])
                    refine bodyPost_ret (v := .agg #[.slice ao1 nm cap1, .slice ao2 ns cap2, .slice ao nc cap, .int .i64 500, .int .i64 200, .int .i64 1, .int .i64 64, .int .i64 32]) (by simp [results, Try.results47, go_sem, f0, f1, f2, f3, f4, f5, f6, f7]) rfl ?_
                    exact ⟨HFB.out, _, _, _, _, _, _, rfl, HFM.out, HFS.out, HFC.out, by have := N1.out; have := N2.out; have := N3.out; show nm ≤ 1000 ∧ ns ≤ 1000 ∧ nc ≤ 1000; omega⟩
end Go.Proofs.Ythmbpoldjddheaa
