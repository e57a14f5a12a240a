/- conf.Plain, walked (made by gen_cf4.py). -/
import Derived.Test.YthmbpoldjddheaaCfGrow
namespace Go.Proofs.Ythmbpoldjddheaa
open Go.ChangeShapes Go.WideShapes Go.ChangeAt Go.RowKit
theorem infoCy : (Try.prog.info? 74).map (fun i => (i.zero, i.size, i.bytes)) = some (some (.agg #[.int .i64 0, .int .i64 0, .int .i64 0, .int .i64 0]), 4, 32) := by kernel_rfl
theorem heap_second (w : World) (o : Obj) (cs : Array Value) (ty : TypeId) : ((w.alloc o).alloc (.cells cs ty)).heap[w.heap.size + 1]? = some (.cells cs ty (0, 0)) := by
  have h := heap_alloc_new (w.alloc o) (.cells cs ty)
  rwa [World.size_alloc] at h
set_option maxHeartbeats 8000000 in
set_option maxRecDepth 100000 in
theorem plain_any (a b d : Int) (w : World) :
    Calls Try.prog 46 #[.int .i64 a, .int .i64 b, .int .i64 d] w (fun e w' => Below w.heap.size w w' ∧ ∃ am au ac cm cs cc, e = .returned (.agg #[.slice am (nr a 2 16) cm, .slice au (nr b 1 8) cs, .slice ac (nr d 1 4) cc, .int .i64 500, .int .i64 200, .int .i64 1, .int .i64 64, .int .i64 32]) ∧ (plainC am au ac (nr a 2 16) cm (nr b 1 8) cs (nr d 1 4) cc).At w') := by
  have H1 := Lib.hid (fun W => near10_any a 2 16 (by decide) W)
  have H2 := Lib.hid (fun W => near10_any b 1 8 (by decide) W)
  have H3 := Lib.hid (fun W => near10_any d 1 4 (by decide) W)
  have N1 := Lib.hid (nr_in a 2 16 (by decide))
  have N2 := Lib.hid (nr_in b 1 8 (by decide))
  have N3 := Lib.hid (nr_in d 1 4 (by decide))
  obtain ⟨nm, hnm⟩ : ∃ x, nr a 2 16 = x := ⟨_, rfl⟩
  obtain ⟨ns, hns⟩ : ∃ x, nr b 1 8 = x := ⟨_, rfl⟩
  obtain ⟨nc, hnc⟩ : ∃ x, nr d 1 4 = x := ⟨_, rfl⟩
  rw [hnm] at H1 N1 ⊢
  rw [hns] at H2 N2 ⊢
  rw [hnc] at H3 N3 ⊢
  clear hnm hns hnc
  have R1 := Lib.hid (fun g W hW => repeatM g nm 1000 100 (by have := N1.out.1; omega) (by have := N1.out.2; omega) W hW)
  have R2 := Lib.hid (fun g W hW => repeatS g ns 10 12 (by have := N2.out.1; omega) (by have := N2.out.2; omega) W hW)
  obtain ⟨i0, hinf, hz0, hz1, hz2⟩ := info_parts' infoCy
  go_enter Try.func46, Try.ntmps46
  go_wp2_with fail
  refine (H1.out _).mono ?_
  rintro e w0 ⟨rfl, rfl⟩
  go_wp2_with fail
  refine (R1.out _ _ (by exact heap_second _ _ _ _)).mono ?_
  rintro e w1 ⟨hb1, rfl, hm1⟩
  have HZ1 : Hid (w1.heap[w.heap.size]? = some (.cells #[.slice none 0 0, .slice none 0 0, .slice none 0 0, .int .i64 0, .int .i64 0, .int .i64 0, .int .i64 0, .int .i64 0] 67 (0, 0))) := keepB (keepA (heap_alloc_new _ _) _) hb1
  have HB1 : Hid (Below w.heap.size w w1) := (((Below.refl _ _).alloc (Nat.le_refl _) _).alloc (by simp) _).trans (hb1.mono (by simp; omega))
  have HM1 := Lib.hid hm1
  have HMW : Hid (w.heap.size < ((w.alloc (.cells #[.slice none 0 0, .slice none 0 0, .slice none 0 0, .int .i64 0, .int .i64 0, .int .i64 0, .int .i64 0, .int .i64 0] 67)).alloc (.cells #[.int .i64 1000, .int .i64 100] 77)).heap.size) := by show _ < _; simp; omega
  clear hb1 hm1 H1 R1
  generalize ((w.alloc (.cells #[.slice none 0 0, .slice none 0 0, .slice none 0 0, .int .i64 0, .int .i64 0, .int .i64 0, .int .i64 0, .int .i64 0] 67)).alloc (.cells #[.int .i64 1000, .int .i64 100] 77)).heap.size = M at *
  go_wp2_with fail
  refine (H2.out _).mono ?_
  rintro e w0 ⟨rfl, rfl⟩
  go_wp2_with fail
  refine (R2.out _ _ (by exact heap_alloc_new _ _)).mono ?_
  rintro e w2 ⟨hb2, rfl, hm2⟩
  have HZ2 := Lib.hid (keepB (keepA HZ1.out _) hb2)
  have HM2 := Lib.hid (keepB (keepA HM1.out _) hb2)
  have HB2 : Hid (Below w.heap.size w w2) := (HB1.out.alloc HB1.out.size _).trans (hb2.mono (by have := HB1.out.size; simp; omega))
  have HS2 := Lib.hid hm2
  have HSW : Hid (w.heap.size < (w1.alloc (.cells #[.int .i64 10, .int .i64 12] 81)).heap.size) := by show _ < _; have := HB1.out.size; simp; omega
  clear hb2 hm2 H2 R2 HZ1 HM1 HB1
  generalize (w1.alloc (.cells #[.int .i64 10, .int .i64 12] 81)).heap.size = S at *
  go_wp2_with fail
  refine (H3.out _).mono ?_
  rintro e w0 ⟨rfl, rfl⟩
  obtain ⟨X, hX⟩ : ∃ X, w2.heap.size = X := ⟨_, rfl⟩
  have HL0 : Hid (Lp (w2.alloc (.cells #[.slice (some ⟨M, 0, none⟩) nm nm, .slice (some ⟨S, 0, none⟩) ns ns, .slice none 0 0, .int .i64 500, .int .i64 200, .int .i64 1, .int .i64 64, .int .i64 32] 67)) (w2.alloc (.cells #[.slice (some ⟨M, 0, none⟩) nm nm, .slice (some ⟨S, 0, none⟩) ns ns, .slice none 0 0, .int .i64 500, .int .i64 200, .int .i64 1, .int .i64 64, .int .i64 32] 67)) X (fun v => #[.slice (some ⟨M, 0, none⟩) nm nm, .slice (some ⟨S, 0, none⟩) ns ns, v, .int .i64 500, .int .i64 200, .int .i64 1, .int .i64 64, .int .i64 32]) 74 4 0 [] (.slice none 0 0)) := by
    subst hX
    exact ⟨⟨rfl, rfl, rfl, Nat.le_refl _, fun _ _ _ => rfl⟩, heap_alloc_new _ _, World.ownsRow_nil _ _ _ _⟩
  have HZ3 := Lib.hid (keepA HZ2.out (.cells #[.slice (some ⟨M, 0, none⟩) nm nm, .slice (some ⟨S, 0, none⟩) ns ns, .slice none 0 0, .int .i64 500, .int .i64 200, .int .i64 1, .int .i64 64, .int .i64 32] 67))
  have HM3 := Lib.hid (keepA HM2.out (.cells #[.slice (some ⟨M, 0, none⟩) nm nm, .slice (some ⟨S, 0, none⟩) ns ns, .slice none 0 0, .int .i64 500, .int .i64 200, .int .i64 1, .int .i64 64, .int .i64 32] 67))
  have HS3 := Lib.hid (keepA HS2.out (.cells #[.slice (some ⟨M, 0, none⟩) nm nm, .slice (some ⟨S, 0, none⟩) ns ns, .slice none 0 0, .int .i64 500, .int .i64 200, .int .i64 1, .int .i64 64, .int .i64 32] 67))
  have HB3 : Hid (Below w.heap.size w (w2.alloc (.cells #[.slice (some ⟨M, 0, none⟩) nm nm, .slice (some ⟨S, 0, none⟩) ns ns, .slice none 0 0, .int .i64 500, .int .i64 200, .int .i64 1, .int .i64 64, .int .i64 32] 67))) := HB2.out.alloc HB2.out.size _
  have HXW : Hid (w.heap.size < X ∧ X < (w2.alloc (.cells #[.slice (some ⟨M, 0, none⟩) nm nm, .slice (some ⟨S, 0, none⟩) ns ns, .slice none 0 0, .int .i64 500, .int .i64 200, .int .i64 1, .int .i64 64, .int .i64 32] 67)).heap.size ∧ M < X ∧ S < X) := by
    have h1 := lt_of_block HZ2.out
    have h2 := lt_of_block HM2.out
    have h3 := lt_of_block HS2.out
    rw [← hX]
    exact ⟨h1, by simp, h2, h3⟩
  have n4 : (nc : Int) ≤ 4 := by have := N3.out.2; omega
  go_wp2_with fail
  (try rw [hX])
  clear hX HZ2 HM2 HS2 HB2
  generalize w2.alloc (.cells #[.slice (some ⟨M, 0, none⟩) nm nm, .slice (some ⟨S, 0, none⟩) ns ns, .slice none 0 0, .int .i64 500, .int .i64 200, .int .i64 1, .int .i64 64, .int .i64 32] 67) = w3 at *
  go_loopw [23] (fun iv wr => ∃ i : Nat, i ≤ nc ∧ iv = .int .i64 i ∧ Hid (∃ v, Lp w3 wr X (fun v => #[.slice (some ⟨M, 0, none⟩) nm nm, .slice (some ⟨S, 0, none⟩) ns ns, v, .int .i64 500, .int .i64 200, .int .i64 1, .int .i64 64, .int .i64 32]) 74 4 i (cyL i) v)) (fun iv _ => nc - (intOf iv).toNat)
  case atStart => exact ⟨0, Nat.zero_le _, rfl, _, HL0.out⟩
  case round =>
    clear HL0
    obtain ⟨i, hi, rfl, HL⟩ := hrel
    have hi2 : (i : Int) ≤ nc := by omega
    obtain ⟨v, hl⟩ := HL.out
    have HLP := Lib.hid hl
    obtain ⟨ao, cap, rfl, _⟩ := row_view hl.row
    by_cases hlt : i < nc
    · have hlt2 : (i : Int) < nc := by omega
      have k2 : wr.cell? ⟨X, 2, none⟩ = some (.slice ao i cap) := (eight_read hl.here).2.2.1
      have HIL := Lib.hid hlt
      have HI4 : Hid (i + 1 ≤ 10) := by have := N3.out.2; show _ ≤ _; omega
      clear hl hlt hi HL
      go_wp2_with (at_builtin; refine wpList_append_lies _ rfl _ _ 65 rfl w3.heap.size 74 i0 (.agg #[.int .i64 0, .int .i64 0, .int .i64 0, .int .i64 0]) 4 32 Try.underlying65 hinf hz0 hz1 hz2 rfl (by decide) (.slice ao i cap) i (cyL i) rfl (World.ownsRow.alloc HLP.out.row _) ⟨wr.heap.size, 0, none⟩ 1 1 [.int .i64 (10 * (i : Int) + 4), .int .i64 (10 * (i : Int) + 7), .int .i64 (10 * (i : Int) + 9), .int .i64 (10 * (i : Int) + 10)] rfl rfl ?a1 ?a2 (by decide) ?a3 ?a4 ?a5 _ rfl ?_)
      case a1 => exact news_four _ _ _ _ _ _ _ rfl
      case a2 => intro u hu; simp at hu; rcases hu with rfl | rfl | rfl | rfl <;> rfl
      case a3 => unfold maxLen; have := HI4.out; omega
      case a4 => have := HI4.out; omega
      case a5 => have := HLP.out.grown.size; simp; omega
      intro g2 cap2 w5 hown hgrow hat _
      have hn := Lp.next (idx := 2) HLP.out HXW.out.2.1 (by rfl) hown hgrow
      have hx5 : w5.heap[X]? = some (.cells ((fun v => #[.slice (some ⟨M, 0, none⟩) nm nm, .slice (some ⟨S, 0, none⟩) ns ns, v, .int .i64 500, .int .i64 200, .int .i64 1, .int .i64 64, .int .i64 32]) (.slice ao i cap)) 67 (0, 0)) := (hgrow.block X (by have := HLP.out.grown.size; have := HXW.out.2.1; simp; omega) (fun e => by have := (World.ownsRow.lt HLP.out.row X e.symm).1; have := HXW.out.2.1; omega)).trans ((Below.heap_alloc _ _ _ (by have := HLP.out.grown.size; have := HXW.out.2.1; omega)).trans HLP.out.here)
      have k5 : w5.cell? ⟨X, 2, none⟩ = some (.slice ao i cap) := (eight_read hx5).2.2.1
      have f5 := eight_free hx5 2
      have HN := Lib.hid hn
      clear hn hx5 hown hgrow hat k2
      go_wp2_with fail
      go_roundw
      case rel => exact ⟨i + 1, HIL.out, by go_num, _, HN.out⟩
      case measure => have := HIL.out; simp [intOf]; omega
    · obtain rfl : i = nc := by omega
      have hz := (HLP.out.grown.block w.heap.size (by have := HXW.out; omega) (fun e => by injection e with e; have := HXW.out; omega)).trans HZ3.out
      have hm := (HLP.out.grown.block M (by have := HXW.out; omega) (fun e => by injection e with e; have := HXW.out; omega)).trans HM3.out
      have hs := (HLP.out.grown.block S (by have := HXW.out; omega) (fun e => by injection e with e; have := HXW.out; omega)).trans HS3.out
      obtain ⟨x0, x1, x2, x3, x4, x5, x6, x7⟩ := eight_read hl.here
      obtain ⟨z0, z1, z2, z3, z4, z5, z6, z7⟩ := eight_read hz
      have y0 := eight_free hz 0
      have y1 := eight_free hz 1
      have y2 := eight_free hz 2
      have y3 := eight_free hz 3
      have y4 := eight_free hz 4
      have y5 := eight_free hz 5
      have y6 := eight_free hz 6
      have y7 := eight_free hz 7
      obtain ⟨f0, f1, f2, f3, f4, f5, f6, f7⟩ := eight_read (eight_set hz (.slice (some ⟨M, 0, none⟩) nm nm) (.slice (some ⟨S, 0, none⟩) ns ns) (.slice ao i cap) (.int .i64 500) (.int .i64 200) (.int .i64 1) (.int .i64 64) (.int .i64 32))
      have hg := eight_grown wr w.heap.size (.slice (some ⟨M, 0, none⟩) nm nm) (.slice (some ⟨S, 0, none⟩) ns ns) (.slice ao i cap) (.int .i64 500) (.int .i64 200) (.int .i64 1) (.int .i64 64) (.int .i64 32)
      have HFM : Hid (Two _ (some ⟨M, 0, none⟩) nm (fun _ => (1000 : Int)) (fun _ => (100 : Int))) := block_two ((hg.block M (lt_of_block hm) (fun e => by injection e with e; have := HMW.out; omega)).trans hm)
      have HFS : Hid (Two _ (some ⟨S, 0, none⟩) ns (fun _ => (10 : Int)) (fun _ => (12 : Int))) := block_two ((hg.block S (lt_of_block hs) (fun e => by injection e with e; have := HSW.out; omega)).trans hs)
      have HFC := Lib.hid (row_four (World.ownsRow.kept HLP.out.row hg (Or.inr (fun e => by have := (World.ownsRow.lt HLP.out.row _ e).1; have := HXW.out; omega))))
      have HFB : Hid (Below w.heap.size w _) := grown_bel (grown_bel HB3.out (Nat.le_of_lt HXW.out.1) HB3.out.size HLP.out.grown) (Nat.le_refl _) (Nat.le_trans HB3.out.size HLP.out.grown.size) hg
      clear hl hlt hi hi2 hz hm hs hg HL
      go_wp2_with fail
      (try simp only [Exit.inBlock, Exit.then])
      refine bodyPost_ret (v := .agg #[.slice (some ⟨M, 0, none⟩) nm nm, .slice (some ⟨S, 0, none⟩) ns ns, .slice ao i cap, .int .i64 500, .int .i64 200, .int .i64 1, .int .i64 64, .int .i64 32]) (by simp [results, Try.results46, go_sem, f0, f1, f2, f3, f4, f5, f6, f7]) rfl ?_
      exact ⟨HFB.out, _, _, _, _, _, _, rfl, HFM.out, HFS.out, HFC.out, by have := N1.out; have := N2.out; have := N3.out; show nm ≤ 1000 ∧ ns ≤ 1000 ∧ i ≤ 1000; omega⟩
end Go.Proofs.Ythmbpoldjddheaa
