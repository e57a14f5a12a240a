/- Tables: Insert of one row at the end; and where there is no room. -/
import Derived.Test.YthmbpoldjddheaaTabIns1
namespace Go.Proofs.Ythmbpoldjddheaa
open Go.ChangeShapes Go.WideShapes Go.ChangeAt Go.RowKit
set_option maxHeartbeats 2000000 in
set_option maxRecDepth 100000 in
theorem ins_grow (B b n cap i k : Nat) (a : Nat → Int) (s : Nat → ByteArray) (x : Int) (t : ByteArray) (hn : n ≤ 1000) (hi : i < n) (hroom : cap < n + 1) (w : World) (h : OwnsR w B 39 (.slice (some ⟨b, 0, none⟩) n cap) n a s)
    (k0 : w.cell? ⟨k, 0, none⟩ = some (.int .i64 x)) (k1 : w.cell? ⟨k, 1, none⟩ = some (.string t)) :
    Calls Try.prog 55 #[.slice (some ⟨b, 0, none⟩) n cap, .int .i64 (i : Nat), .slice (some ⟨k, 0, none⟩) 1 1] w
      (fun e w' => Below w.heap.size w w' ∧ ∃ c', e = .returned (.slice (some ⟨w.heap.size, 0, none⟩) (n + 1) c') ∧ OwnsR w' w.heap.size 39 (.slice (some ⟨w.heap.size, 0, none⟩) (n + 1) c') (n + 1) (insA a i x) (insS s i t)) := by
  obtain ⟨L0, hL0, hL0l, hBb, hnc, hcm, hL0t⟩ := h.block
  obtain ⟨i0, hinf, hz0, hzs, hzb⟩ := info_parts infoT
  have hsz : (Try.prog.info? 39).map (·.size) = some 2 := by rw [hinf]; simp [hzs]
  have hcells : ∀ j v, (rowCells a s n)[j]? = some v → w.cell? ⟨b, j, none⟩ = some v := fun j v hj => by
    have hjl := (List.getElem?_eq_some_iff.1 hj).1
    rw [rowCells_length] at hjl
    rw [World.ownsRow.cellAt h j (by omega)]
    exact hj
  have hold : (Builtin.firstCells i0.size i (.slice (some ⟨b, 0, none⟩) i cap)).run Try.prog w.drew = .ok (rowCells a s i).toArray w.drew := by
    rw [hzs]
    exact run_firstCells_some w.drew 2 i ⟨b, 0, none⟩ i cap (rowCells a s i) (rowCells_length _ _ _) (fun j v hj => by
      rw [add_plain, Nat.zero_add]
      refine hcells j v ?_
      rw [← rowCells_take a s n i (by omega), List.getElem?_take] at hj
      split at hj
      · exact hj
      · cases hj)
  have hik : i + (n + 1 - i) = n + 1 := by omega
  have hkk : (n : Int) + 1 - (i : Int) = ((n + 1 - i : Nat) : Int) := by omega
  obtain ⟨G, hG⟩ : ∃ G, G = grownCap w (n + 1) cap 39 := ⟨_, rfl⟩
  have hGn : n + 1 ≤ G := by rw [hG]; exact grownCap_ge w _ _ _
  have hGm : G ≤ maxLen := by rw [hG]; exact grownCap_le_maxLen w (n + 1) cap 39 (by unfold maxLen; omega)
  have hG63 : G ≤ 9223372036854775807 := by unfold maxLen at hGm; omega
  obtain ⟨R1, hR1⟩ : ∃ R1 : List Value, R1 = rowCells a s i ++ (Builtin.zeroCells (Value.agg #[.int .i64 0, .string ⟨#[]⟩]).cells (n + 1 - i)).toList ++ (Builtin.zeroCells (Value.agg #[.int .i64 0, .string ⟨#[]⟩]).cells (G - (n + 1))).toList := ⟨_, rfl⟩
  have hzl : ∀ m, (Builtin.zeroCells (Value.agg #[.int .i64 0, .string ⟨#[]⟩]).cells m).toList.length = m * 2 := fun m => by
    have e : (Value.agg #[Value.int .i64 0, Value.string ⟨#[]⟩]).cells = #[Value.int .i64 0, Value.string ⟨#[]⟩] := rfl
    rw [e]
    simp [Builtin.zeroCells]
  have hR1l : R1.length = G * 2 := by
    rw [hR1, List.length_append, List.length_append, hzl, hzl, rowCells_length]
    omega
  have hR1t : R1.take (i * 2) = rowCells a s i := by
    rw [hR1, List.append_assoc, List.take_append_of_le_length (by rw [rowCells_length]; exact Nat.le_refl _), List.take_of_length_le (by rw [rowCells_length]; exact Nat.le_refl _)]
  have hrz : ∀ ty, (Builtin.append_ #[33, 3] ty #[.slice (some ⟨b, 0, none⟩) i cap, .int .i64 ((n : Int) + 1 - (i : Int))]).run Try.prog w =
      .ok (.slice (some ⟨w.heap.size, 0, none⟩) (n + 1) G) (w.drew.alloc (.cells R1.toArray 39)) := fun ty => by
    have h := Lib.run_append_grow_zeros w 33 3 ty 39 i0 _ .i64 .i64 Try.underlying33 Try.underlying3 hinf hz0 (some ⟨b, 0, none⟩) i cap (rowCells a s i) hold (n + 1 - i) (by omega) (by omega) (by omega) (by omega) (by rw [hzb]; omega) (by rw [hzb, hik]; exact growslice_fits hroom (by omega))
    rw [hik] at h
    rw [hkk, h, ← hG]
    have eR : R1.toArray = (rowCells a s i).toArray ++ Builtin.zeroCells (Value.agg #[.int .i64 0, .string ⟨#[]⟩]).cells (n + 1 - i) ++ Builtin.zeroCells (Value.agg #[.int .i64 0, .string ⟨#[]⟩]).cells (G - (n + 1)) := by
      rw [hR1]
      apply Array.ext'
      simp only [Array.toList_append, List.append_assoc]
    rw [eR]
  have hcellk : ∀ j v, [Value.int .i64 x, Value.string t][j]? = some v → w.cell? ⟨k, j, none⟩ = some v := fun j v hj => by
    match j, hj with
    | 0, hj => simp at hj; rw [← hj]; exact k0
    | 1, hj => simp at hj; rw [← hj]; exact k1
    | j + 2, hj => simp at hj
  have hkw : k < w.heap.size := block_lt_of_cell k0
  have hbw : b < w.heap.size := lt_of_block hL0
  obtain ⟨g, hg⟩ : ∃ g, g = w.heap.size := ⟨_, rfl⟩
  have hg1 : (w.drew.alloc (.cells R1.toArray 39)).heap[g]? = some (.cells R1.toArray 39 (0, 0)) := by rw [hg]; exact heap_alloc_new w.drew _
  have hold1 : ∀ o j, o < w.heap.size → (w.drew.alloc (.cells R1.toArray 39)).cell? ⟨o, j, none⟩ = w.cell? ⟨o, j, none⟩ := fun o j ho => by rw [World.cell?_alloc_past (w := w.drew) _ o j ho]; rfl
  have B1 : Below w.heap.size w (w.drew.alloc (.cells R1.toArray 39)) := ((Below.refl _ _).drew).alloc (Nat.le_refl _) _
  obtain ⟨w1, hw1⟩ : ∃ w1, w1 = w.drew.alloc (.cells R1.toArray 39) := ⟨_, rfl⟩
  rw [← hw1] at hrz hg1 hold1 B1
  have hcA : ∀ ty dc, (Builtin.copy_ #[33, 33] ty #[.slice (some ⟨g, i * 2, none⟩) (n + 1 - i) dc, .slice (some ⟨k, 0, none⟩) 1 1]).run Try.prog w1 = .ok (goInt 1) (w1.setRow g (over R1 (i * 2) [.int .i64 x, .string t]).toArray) := fun ty dc => by
    have h := run_copy_k (P := Try.prog) w1 33 33 ty 39 2 g (i * 2) (n + 1 - i) dc ⟨k, 0, none⟩ 1 1 R1 39 [.int .i64 x, .string t] Try.underlying33 hsz hg1
      (by rw [show Nat.min 1 (n + 1 - i) = 1 from Nat.min_eq_left (by omega)]; rfl)
      (fun j v hj => by rw [add_plain, Nat.zero_add, hold1 k j hkw]; exact hcellk j v hj)
      (by rw [hR1l]; simp; omega) (by intro v hv; simp at hv; rcases hv with rfl | rfl <;> rfl)
    rw [show Nat.min 1 (n + 1 - i) = 1 from Nat.min_eq_left (by omega)] at h
    exact h
  have hg2 : (w1.setRow g (over R1 (i * 2) [.int .i64 x, .string t]).toArray).heap[g]? = some (.cells (over R1 (i * 2) [.int .i64 x, .string t]).toArray 39 (0, 0)) := setRow_heap w1 g _ _ _ _ hg1
  have hold2 : ∀ o j, o < w.heap.size → (w1.setRow g (over R1 (i * 2) [.int .i64 x, .string t]).toArray).cell? ⟨o, j, none⟩ = w.cell? ⟨o, j, none⟩ := fun o j ho => by
    rw [World.cell?_of_block (a := ⟨o, j, none⟩) (setRow_other w1 g o _ (by omega))]
    exact hold1 o j ho
  have B2 : Below w.heap.size w (w1.setRow g (over R1 (i * 2) [.int .i64 x, .string t]).toArray) := below_setRow B1 (by omega) _
  have hR2l := over_length R1 (i * 2) [.int .i64 x, .string t] (by rw [hR1l]; simp; omega)
  have hfin := over_twice R1 [.int .i64 x, .string t] (rowCells (fun q => a (q + i)) (fun q => s (q + i)) (n - i)) (i * 2) (by rw [hR1l, rowCells_length]; simp; omega)
  rw [rowCells_length, hR1t] at hfin
  obtain ⟨R2, hR2⟩ : ∃ R2, R2 = over R1 (i * 2) [.int .i64 x, .string t] := ⟨_, rfl⟩
  rw [← hR2] at hcA hg2 hold2 B2 hR2l hfin
  obtain ⟨w2, hw2⟩ : ∃ w2, w2 = w1.setRow g R2.toArray := ⟨_, rfl⟩
  rw [← hw2] at hcA hg2 hold2 B2
  have hmin : Nat.min (n - i) (n + 1 - (i + 1)) = n - i := by rw [show n + 1 - (i + 1) = n - i by omega]; exact Nat.min_self _
  have hcB : ∀ ty dc sc, (Builtin.copy_ #[33, 33] ty #[.slice (some ⟨g, (i + 1) * 2, none⟩) (n + 1 - (i + 1)) dc, .slice (some ⟨b, i * 2, none⟩) (n - i) sc]).run Try.prog w2.drew = .ok (goInt ((n - i : Nat) : Int)) (w2.drew.setRow g (over R2 ((i + 1) * 2) (rowCells (fun q => a (q + i)) (fun q => s (q + i)) (n - i))).toArray) := fun ty dc sc => by
    have h := run_copy_k (P := Try.prog) w2.drew 33 33 ty 39 2 g ((i + 1) * 2) (n + 1 - (i + 1)) dc ⟨b, i * 2, none⟩ (n - i) sc R2 39 (rowCells (fun q => a (q + i)) (fun q => s (q + i)) (n - i)) Try.underlying33 hsz hg2
      (by rw [hmin, rowCells_length])
      (fun j v hj => by
        have hjl := (List.getElem?_eq_some_iff.1 hj).1
        rw [rowCells_length] at hjl
        rw [add_plain]
        show w2.cell? ⟨b, i * 2 + j, none⟩ = some v
        rw [hold2 b _ hbw]
        refine hcells _ _ ?_
        rw [show n = i + (n - i) by omega, rowCells_split, List.getElem?_append_right (by rw [rowCells_length]; omega), rowCells_length, show i * 2 + j - i * 2 = j by omega]
        exact hj)
      (by rw [hR2l, hR1l, rowCells_length]; omega) (rowCells_one _ _ _)
    rw [hmin] at h
    exact h
  have HF : Hid (OwnsR (w2.drew.setRow g (over R2 ((i + 1) * 2) (rowCells (fun q => a (q + i)) (fun q => s (q + i)) (n - i))).toArray) w.heap.size 39 (.slice (some ⟨g, 0, none⟩) (n + 1) G) (n + 1) (insA a i x) (insS s i t)) := by
    refine OwnsR.of_block (L := over R2 ((i + 1) * 2) (rowCells (fun q => a (q + i)) (fun q => s (q + i)) (n - i))) (by omega) (setRow_heap w2.drew g _ _ _ _ hg2) ?_ hGn hGm ?_
    · rw [over_length _ _ _ (by rw [hR2l, hR1l, rowCells_length]; omega), hR2l, hR1l]
    · rw [rowCells_ins a s n i x t (by omega), ← hfin]
      simp only [List.length_cons, List.length_nil]
      rw [show (i + 1) * 2 = i * 2 + (0 + 1 + 1) by omega, show (n + 1) * 2 = i * 2 + (0 + 1 + 1) + (n - i) * 2 by omega]
  have HB : Hid (Below w.heap.size w (w2.drew.setRow g (over R2 ((i + 1) * 2) (rowCells (fun q => a (q + i)) (fun q => s (q + i)) (n - i))).toArray)) := below_setRow B2.drew (by omega) _
  have hn2 : (n : Int) ≤ 1000 := by omega
  have d1 : ((1 : Int) == 0) = false := by decide
  have d2 : ((i : Int) == (n : Int)) = false := by rw [beq_eq_false_iff_ne]; omega
  have d3 : decide ((cap : Int) < (n : Int) + 1) = true := decide_eq_true (by omega)
  have hcn : cap = n := by omega
  have hGi : ¬ (G = i) := by omega
  have hGim : ¬ (G = i + 1) := by omega
  have hci : ¬ (n = i) := by omega
  have e0 : IntKind.i64.wrap ((n : Int) + 1 - (i : Int)) = (n : Int) + 1 - (i : Int) := by rw [IntKind.wrap_i64]; omega
  have e1 : (0 : Int) ≤ (i : Int) + 1 := by omega
  have e2 : ((i : Int) + 1).toNat = i + 1 := by omega
  have e3 : (i : Int) ≤ n := by omega
  have e4 : i ≤ n := by omega
  have hG64 : (G : Int) ≤ 9223372036854775807 := by omega
  have HGS := Lib.hid hg
  rw [← hg] at HF HB ⊢
  rw [← hg] at hrz
  obtain ⟨N, hN⟩ : ∃ N, n + 1 = N := ⟨_, rfl⟩
  have eN : (n : Int) + 1 = (N : Int) := by omega
  rw [hN] at hrz hcA hcB HF ⊢
  rw [eN] at hrz d3 e0
  have e5 : (i : Int) + 1 ≤ N := by omega
  have e6 : (i : Int) ≤ N := by omega
  have e7 : (i : Int) + 1 ≤ G := by omega
  have e8 : i + 1 ≤ G := by omega
  have e9 : i + 1 ≤ N := by omega
  have e11 : (N : Int) ≤ G := by omega
  have e12 : N ≤ G := by omega
  have e13 : i ≤ N := by omega
  have hwr : IntKind.i64.wrap ((i : Int) + 1) = (i : Int) + 1 := by rw [IntKind.wrap_i64]; omega
  subst hcn
  clear h hL0 hL0l hBb hnc hcm hL0t hold hik hkk hG hR1 hzl hR1l hR1t hcellk hkw hbw hg1 hold1 B1 hw1 hg2 hold2 B2 hR2l hfin hR2 hw2 hmin k0 k1 hcells hroom hn hGm hinf hz0 hzs hzb hg hN hGn
  go_enter Try.func55, Try.ntmps55
  go_wp2_with (first
    | (at_builtin; refine Lib.wpList_append_run _ rfl _ _ _ _ rfl _ _ rfl rfl _ _ (hrz _) ?_)
    | (at_builtin; refine Go.Proofs.wpList_copy_runI _ rfl _ _ 33 33 rfl _ _ rfl rfl (hcA _ _) ?_))
  go_still_tail 8, (by kernel_rfl)
  change wpList _ _ _ _ _ w2.drew
  refine Go.Proofs.wpList_copy_runI _ rfl _ _ 33 33 rfl _ _ rfl rfl (hcB _ _ _) ?_
  go_wp2_with fail
  go_ret
  exact ⟨HB.out, G, rfl, HF.out⟩
end Go.Proofs.Ythmbpoldjddheaa
