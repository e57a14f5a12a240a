/- Tables: Insert of one row where there is room; at the end. -/
import Derived.Test.YthmbpoldjddheaaTabIns2
namespace Go.Proofs.Ythmbpoldjddheaa
open Go.ChangeShapes Go.WideShapes Go.ChangeAt Go.RowKit
theorem over_back (L C Q : List Value) (o : Nat) (h : o + C.length + Q.length ≤ L.length) : (over (over L (o + C.length) Q) o C).take (o + C.length + Q.length) = L.take o ++ C ++ Q := by
  have e1 : (over L (o + C.length) Q).take o = L.take o := by
    have := congrArg (List.take o) (over_take L (o + C.length) Q (by omega))
    rw [List.take_take, Nat.min_eq_left (by omega)] at this
    rw [this, List.take_append_of_le_length (by rw [List.length_take]; omega), List.take_take, Nat.min_eq_left (by omega)]
  have e2 : ((over L (o + C.length) Q).drop (o + C.length)).take Q.length = Q := by
    unfold over
    rw [List.append_assoc, List.drop_append_of_le_length (by rw [List.length_take]; omega), List.drop_of_length_le (by rw [List.length_take]; omega)]
    simp
  rw [show over (over L (o + C.length) Q) o C = (over L (o + C.length) Q).take o ++ C ++ (over L (o + C.length) Q).drop (o + C.length) from rfl, e1]
  have el : (L.take o ++ C).length = o + C.length := by rw [List.length_append, List.length_take]; omega
  rw [List.take_append, el, List.take_of_length_le (by rw [el]; omega), show o + C.length + Q.length - (o + C.length) = Q.length by omega, e2]
set_option maxHeartbeats 2000000 in
set_option maxRecDepth 100000 in
theorem ins_room (B b n cap i k : Nat) (a : Nat → Int) (s : Nat → ByteArray) (x : Int) (t : ByteArray) (hn : n ≤ 1000) (hi : i < n) (hroom : n + 1 ≤ cap) (w : World) (h : OwnsR w B 39 (.slice (some ⟨b, 0, none⟩) n cap) n a s)
    (hk : w.heap[k]? = some (.cells #[.int .i64 x, .string t] 39 (0, 0))) (hkb : k ≠ b) :
    Calls Try.prog 55 #[.slice (some ⟨b, 0, none⟩) n cap, .int .i64 (i : Nat), .slice (some ⟨k, 0, none⟩) 1 1] w
      (fun e w' => Kept (fun q => q = b) w w' ∧ e = .returned (.slice (some ⟨b, 0, none⟩) (n + 1) cap) ∧ OwnsR w' B 39 (.slice (some ⟨b, 0, none⟩) (n + 1) cap) (n + 1) (insA a i x) (insS s i t)) := by
  obtain ⟨L0, hL0, hL0l, hBb, hnc, hcm, hL0t⟩ := h.block
  obtain ⟨i0, hinf, hz0, hzs, hzb⟩ := info_parts infoT
  have hsz : (Try.prog.info? 39).map (·.size) = some 2 := by rw [hinf]; simp [hzs]
  have hso : ∀ w, (Go.sizeOf 39).run Try.prog w = .ok 2 w := fun w => by simp [sizeOf, typeInfo, hinf, hzs]
  have hL0i : L0.take (i * 2) = rowCells a s i := by
    have := congrArg (List.take (i * 2)) hL0t
    rw [rowCells_take a s n i (by omega), List.take_take, Nat.min_eq_left (by omega)] at this
    exact this
  have hcells : ∀ j v, (rowCells a s n)[j]? = some v → w.cell? ⟨b, j, none⟩ = some v := fun j v hj => by
    have hjl := (List.getElem?_eq_some_iff.1 hj).1
    rw [rowCells_length] at hjl
    rw [World.ownsRow.cellAt h j (by omega)]
    exact hj
  have hov : ∀ lb cb, (callFunc 76 #[.slice (some ⟨k, 0, none⟩) 1 1, .slice (some ⟨b, (i + 1) * 2, none⟩) lb cb]).run Try.prog w = .ok (.value (.bool false)) w := fun lb cb => by
    rw [run_callFunc_extern Try.func76 (by kernel_rfl) (by kernel_rfl) (by kernel_rfl) (e := Extern.SlicesOverlaps.overlaps #[33, 33] #[4]) (by kernel_rfl),
      Lib.run_overlaps_apart w 33 4 39 Try.underlying33 2 hso ⟨k, 0, none⟩ ⟨b, (i + 1) * 2, none⟩ 1 1 lb cb hkb 39 39 2 (cap * 2) (by simp [World.shape?, hk]) (by simp [World.shape?, hL0, hL0l]) (by omega) (by simp [World.frozen?, hk]) (by simp [World.frozen?, hk])]
    rfl
  obtain ⟨N, hN⟩ : ∃ N, n + 1 = N := ⟨_, rfl⟩
  have hmin : Nat.min (N - i) (N - (i + 1)) = n - i := (Nat.min_eq_right (a := N - i) (b := N - (i + 1)) (by omega)).trans (by omega)
  have hmin2 : Nat.min 1 (N - i) = 1 := Nat.min_eq_left (by omega)
  have hcB : ∀ ty dc sc, (Builtin.copy_ #[33, 33] ty #[.slice (some ⟨b, (i + 1) * 2, none⟩) (N - (i + 1)) dc, .slice (some ⟨b, i * 2, none⟩) (N - i) sc]).run Try.prog w.drew = .ok (goInt ((n - i : Nat) : Int)) (w.drew.setRow b (over L0 ((i + 1) * 2) (rowCells (fun q => a (q + i)) (fun q => s (q + i)) (n - i))).toArray) := fun ty dc sc => by
    have h := run_copy_k (P := Try.prog) w.drew 33 33 ty 39 2 b ((i + 1) * 2) (N - (i + 1)) dc ⟨b, i * 2, none⟩ (N - i) sc L0 39 (rowCells (fun q => a (q + i)) (fun q => s (q + i)) (n - i)) Try.underlying33 hsz hL0
      (by rw [hmin, rowCells_length])
      (fun j v hj => by
        have hjl := (List.getElem?_eq_some_iff.1 hj).1
        rw [rowCells_length] at hjl
        rw [add_plain]
        show w.cell? ⟨b, i * 2 + j, none⟩ = some v
        refine hcells _ _ ?_
        rw [show n = i + (n - i) by omega, rowCells_split, List.getElem?_append_right (by rw [rowCells_length]; omega), rowCells_length, show i * 2 + j - i * 2 = j by omega]
        exact hj)
      (by rw [hL0l, rowCells_length]; omega) (rowCells_one _ _ _)
    rw [hmin] at h
    exact h
  have hR2l := over_length L0 ((i + 1) * 2) (rowCells (fun q => a (q + i)) (fun q => s (q + i)) (n - i)) (by rw [hL0l, rowCells_length]; omega)
  have hfin := over_back L0 [.int .i64 x, .string t] (rowCells (fun q => a (q + i)) (fun q => s (q + i)) (n - i)) (i * 2) (by rw [hL0l, rowCells_length]; simp; omega)
  rw [rowCells_length, hL0i, show i * 2 + [Value.int .i64 x, Value.string t].length = (i + 1) * 2 by simp; omega] at hfin
  have hg2 : (w.drew.setRow b (over L0 ((i + 1) * 2) (rowCells (fun q => a (q + i)) (fun q => s (q + i)) (n - i))).toArray).heap[b]? = some (.cells (over L0 ((i + 1) * 2) (rowCells (fun q => a (q + i)) (fun q => s (q + i)) (n - i))).toArray 39 (0, 0)) := setRow_heap w.drew b _ _ _ _ hL0
  have hk2 : (w.drew.setRow b (over L0 ((i + 1) * 2) (rowCells (fun q => a (q + i)) (fun q => s (q + i)) (n - i))).toArray).heap[k]? = some (.cells #[.int .i64 x, .string t] 39 (0, 0)) := (setRow_other w.drew b k _ hkb).trans hk
  have K2 : Kept (fun q => q = b) w (w.drew.setRow b (over L0 ((i + 1) * 2) (rowCells (fun q => a (q + i)) (fun q => s (q + i)) (n - i))).toArray) := ⟨rfl, rfl, rfl, by rw [size_setRow]; exact Nat.le_refl _, fun q _ hq => setRow_other w.drew b q _ hq⟩
  obtain ⟨R2, hR2⟩ : ∃ R2, R2 = over L0 ((i + 1) * 2) (rowCells (fun q => a (q + i)) (fun q => s (q + i)) (n - i)) := ⟨_, rfl⟩
  rw [← hR2] at hcB hR2l hfin hg2 hk2 K2
  obtain ⟨w2, hw2⟩ : ∃ w2, w2 = w.drew.setRow b R2.toArray := ⟨_, rfl⟩
  rw [← hw2] at hcB hg2 hk2 K2
  have hcA : ∀ ty dc, (Builtin.copy_ #[33, 33] ty #[.slice (some ⟨b, i * 2, none⟩) (N - i) dc, .slice (some ⟨k, 0, none⟩) 1 1]).run Try.prog w2 = .ok (goInt 1) (w2.setRow b (over R2 (i * 2) [.int .i64 x, .string t]).toArray) := fun ty dc => by
    have h := run_copy_k (P := Try.prog) w2 33 33 ty 39 2 b (i * 2) (N - i) dc ⟨k, 0, none⟩ 1 1 R2 39 [.int .i64 x, .string t] Try.underlying33 hsz hg2
      (by rw [hmin2]; rfl)
      (fun j v hj => by
        rw [add_plain, Nat.zero_add]
        match j, hj with
        | 0, hj => simp at hj; rw [← hj]; simp [World.cell?, hk2]
        | 1, hj => simp at hj; rw [← hj]; simp [World.cell?, hk2]
        | j + 2, hj => simp at hj)
      (by rw [hR2l, hL0l]; simp; omega) (by intro v hv; simp at hv; rcases hv with rfl | rfl <;> rfl)
    rw [hmin2] at h
    exact h
  have HF : Hid (OwnsR (w2.setRow b (over R2 (i * 2) [.int .i64 x, .string t]).toArray) B 39 (.slice (some ⟨b, 0, none⟩) (n + 1) cap) (n + 1) (insA a i x) (insS s i t)) := by
    refine OwnsR.of_block (L := over R2 (i * 2) [.int .i64 x, .string t]) hBb (setRow_heap w2 b _ _ _ _ hg2) ?_ hroom hcm ?_
    · rw [over_length _ _ _ (by rw [hR2l, hL0l]; simp; omega), hR2l, hL0l]
    · rw [rowCells_ins a s n i x t (by omega), ← hfin]
      rw [show (n + 1) * 2 = (i + 1) * 2 + (n - i) * 2 by omega]
  have HK : Hid (Kept (fun q => q = b) w (w2.setRow b (over R2 (i * 2) [.int .i64 x, .string t]).toArray)) := K2.trans ⟨rfl, rfl, rfl, by rw [size_setRow]; exact Nat.le_refl _, fun q _ hq => setRow_other w2 b q _ hq⟩
  have hn2 : (n : Int) ≤ 1000 := by omega
  have d1 : ((1 : Int) == 0) = false := by decide
  have d2 : ((i : Int) == (n : Int)) = false := by rw [beq_eq_false_iff_ne]; omega
  have eN : (n : Int) + 1 = (N : Int) := by omega
  have d3 : decide ((cap : Int) < (N : Int)) = false := decide_eq_false (by omega)
  have d4 : decide (cap < N) = false := decide_eq_false (by omega)
  have hci : ¬ (cap = i) := by omega
  have hci2 : ¬ (cap = i + 1) := by omega
  have hcm2 : (cap : Int) ≤ 9223372036854775807 := by unfold maxLen at hcm; omega
  have e1 : (0 : Int) ≤ (i : Int) + 1 := by omega
  have e2 : ((i : Int) + 1).toNat = i + 1 := by omega
  have e3 : (i : Int) ≤ n := by omega
  have e4 : i ≤ n := by omega
  have e5 : (i : Int) + 1 ≤ N := by omega
  have e6 : (i : Int) ≤ N := by omega
  have e7 : (i : Int) + 1 ≤ cap := by omega
  have e8 : i + 1 ≤ cap := by omega
  have e9 : i + 1 ≤ N := by omega
  have e10 : (i : Int) ≤ cap := by omega
  have e11 : (N : Int) ≤ cap := by omega
  have e12 : N ≤ cap := by omega
  have e13 : i ≤ N := by omega
  have e14 : i ≤ cap := by omega
  have hwr : IntKind.i64.wrap ((i : Int) + 1) = (i : Int) + 1 := by rw [IntKind.wrap_i64]; omega
  rw [hN] at HF ⊢
  clear h hL0 hL0l hBb hnc hcm hL0t hL0i hk hkb hmin hmin2 hR2l hfin hg2 hk2 K2 hR2 hw2 hcells hroom hn hinf hz0 hzs hzb hN hso
  go_enter Try.func55, Try.ntmps55
  go_wp2_with fail
  go_still_tail 8, (by kernel_rfl)
  change wpList _ _ _ _ _ w.drew
  refine Go.Proofs.wpList_copy_runI _ rfl _ _ 33 33 rfl _ _ rfl rfl (hcB _ _ _) ?_
  go_wp2_with (at_builtin; refine Go.Proofs.wpList_copy_runI _ rfl _ _ 33 33 rfl _ _ rfl rfl (hcA _ _) ?_)
  go_ret
  exact ⟨HK.out, rfl, HF.out⟩
set_option maxHeartbeats 1000000 in
theorem ins_end (B n k : Nat) (a : Nat → Int) (s : Nat → ByteArray) (v : Value) (x : Int) (t : ByteArray) (hn : n ≤ 1000) (w : World) (h : OwnsR w B 39 v n a s) (hB : B ≤ w.heap.size)
    (hk : w.heap[k]? = some (.cells #[.int .i64 x, .string t] 39 (0, 0))) :
    Calls Try.prog 55 #[v, .int .i64 (n : Nat), .slice (some ⟨k, 0, none⟩) 1 1] w
      (fun e w' => ∃ v', e = .returned v' ∧ w.grownBy w' v.ownBlock ∧ Near w v v' ∧ OwnsR w' B 39 v' (n + 1) (insA a n x) (insS s n t)) := by
  obtain ⟨ao, cap, rfl, _⟩ := h.view
  obtain ⟨i0, hinf, hz0, hzs, hzb⟩ := info_parts infoT
  have k0 : w.cell? ⟨k, 0, none⟩ = some (.int .i64 x) := by simp [World.cell?, hk]
  have k1 : w.cell? ⟨k, 1, none⟩ = some (.string t) := by simp [World.cell?, hk]
  have hn2 : (n : Int) ≤ 1000 := by omega
  have d1 : ((1 : Int) == 0) = false := by decide
  have hcap : n ≤ cap ∧ cap ≤ maxLen := by
    rcases h.2 with ⟨e, e0⟩ | ⟨g', cap', cur, e, _, _, h1, h2, _⟩
    · injection e with _ _ e3
      subst e3 e0
      exact ⟨Nat.le_refl _, Nat.zero_le _⟩
    · injection e with _ _ e
      subst e
      exact ⟨h1, h2⟩
  have hc2 : (n : Int) ≤ cap := by omega
  have hc3 : (cap : Int) ≤ 9223372036854775807 := by have := hcap.2; unfold maxLen at this; omega
  have hc4 := hcap.1
  have HO := Lib.hid h
  clear hcap hk h
  by_cases hcn : cap = n
  · subst hcn
    go_enter Try.func55, Try.ntmps55
    go_wp2_with (at_builtin; refine wpList_append_row _ rfl _ _ 33 rfl B 39 i0 (.agg #[.int .i64 0, .string ⟨#[]⟩]) 24 Try.underlying33 hinf hz0 hzs hzb rfl _ cap _ rfl HO.out k 1 (.int .i64 x) (.string t) rfl k0 k1 rfl rfl ?a3 ?a4 hB ?_)
    case a3 => unfold maxLen; omega
    case a4 => omega
    intro v' w' hown hgrow hnear
    go_wp2
    go_ret
    refine ⟨v', rfl, hgrow, hnear, ?_⟩
    show World.ownsRow _ _ _ 2 _ _ _
    rw [rowCells_ins a s cap cap x t (Nat.le_refl _), Nat.sub_self]
    simpa [rowCells] using hown
  · go_enter Try.func55, Try.ntmps55
    go_wp2_with (at_builtin; refine wpList_append_row _ rfl _ _ 33 rfl B 39 i0 (.agg #[.int .i64 0, .string ⟨#[]⟩]) 24 Try.underlying33 hinf hz0 hzs hzb rfl _ n _ rfl HO.out k 1 (.int .i64 x) (.string t) rfl k0 k1 rfl rfl ?a3 ?a4 hB ?_)
    case a3 => unfold maxLen; omega
    case a4 => omega
    intro v' w' hown hgrow hnear
    go_wp2
    go_ret
    refine ⟨v', rfl, hgrow, hnear, ?_⟩
    show World.ownsRow _ _ _ 2 _ _ _
    rw [rowCells_ins a s n n x t (Nat.le_refl _), Nat.sub_self]
    simpa [rowCells] using hown
end Go.Proofs.Ythmbpoldjddheaa
