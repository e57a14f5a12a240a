/- Tables: Delete of one row. -/
import Derived.Test.YthmbpoldjddheaaTabDel1
import Derived.StillTailTactics
namespace Go.Proofs.Ythmbpoldjddheaa
open Go.ChangeShapes Go.WideShapes Go.ChangeAt Go.RowKit
set_option maxRecDepth 100000 in
set_option maxHeartbeats 4000000 in
theorem delete_any (B g n cap i : Nat) (a : Nat → Int) (s : Nat → ByteArray) (hn : n ≤ 1000) (hi : i < n) (w : World) (h : OwnsR w B 39 (.slice (some ⟨g, 0, none⟩) n cap) n a s) :
    Calls Try.prog 54 #[.slice (some ⟨g, 0, none⟩) n cap, .int .i64 (i : Nat), .int .i64 ((i : Int) + 1)] w (fun e w' => e = .returned (.slice (some ⟨g, 0, none⟩) (n - 1) cap) ∧ OwnsR w' B 39 (.slice (some ⟨g, 0, none⟩) (n - 1) cap) (n - 1) (fun t => a (past i t)) (fun t => s (past i t)) ∧ Kept (fun k => k = g) w w') := by
  have HO := Lib.hid h
  have hcap : n ≤ cap := by
    rcases h.2 with ⟨e, _⟩ | ⟨g', cap', cur, e, _, _, h1, _⟩
    · cases e
    · injection e with _ _ e; omega
  have n2 : (n : Int) ≤ 1000 := by omega
  have n3 : (n : Int) ≤ cap := by omega
  have i2 : (i : Int) < n := by omega
  have i3 : (0 : Int) ≤ (i : Int) + 1 := by omega
  have i4 : ((i : Int) + 1).toNat = i + 1 := by omega
  have i5 : ((i : Int) == (i : Int) + 1) = false := by rw [beq_eq_false_iff_ne]; omega
  have f1 : (i : Int) ≤ cap := by omega
  have f2 : i ≤ cap := by omega
  have f3 : (i : Int) + 1 ≤ n := by omega
  have f4 : i + 1 ≤ n := by omega
  have f5 : (i : Int) + 1 ≤ cap := by omega
  have f6 : i + 1 ≤ cap := by omega
  have f7 : (0 : Int) ≤ (i : Int) := by omega
  obtain ⟨m, hm1⟩ : ∃ m, n - 1 = m := ⟨_, rfl⟩
  rw [hm1]
  have HM1 := Lib.hid hm1
  clear h hn hm1
  go_enter Try.func54, Try.ntmps54
  go_upto_region 5 with fail
  go_still_tail 6, (by kernel_rfl)
  change wpList _ _ _ _ _ w.drew
  have HD : Hid (OwnsR w.drew B 39 (.slice (some ⟨g, 0, none⟩) n cap) n a s) := HO.out
  have HK : Hid (Kept (fun k => k = g) w w.drew) := Kept.of_below (Below.refl _ _).drew
  clear HO
  revert HD HK
  generalize w.drew = w2
  intro HD HK
  obtain ⟨i0, hinf, hz0, hz1, hz2⟩ := info_parts infoT
  have hown := HD.out
  refine wpList_append_fits_any w2 rfl _ _ 33 rfl B 39 i0 2 Try.underlying33 hinf hz1 g i cap (rowCells a s i) rfl (OwnsR.front hown (by omega)) _ (n - (i + 1)) _ (rowCells (fun t => a (t + (i + 1))) (fun t => s (t + (i + 1))) (n - (i + 1))) rfl (rowCells_length _ _ _) ?a1 ?a2 ?a3 ?a4 ?_
  case a1 =>
    intro h
    split at h <;> cases h
  case a2 => exact rows_behind hown f4 hcap (fun h => if_neg h)
  case a3 => exact rowCells_one _ _ _
  case a4 => omega
  intro w3 hown3 hgrow3
  have hm : i + (n - (i + 1)) = m := by have := HM1.out; omega
  rw [rowCells_past, hm] at hown3
  rw [hm]
  have hK3 : Hid (Kept (fun k => k = g) w w3) := HK.out.trans (Kept.of_grown hgrow3 (fun k hk => by injection hk with hk; exact hk.symm))
  have hnm : n - m = 1 := by omega
  have m1 : (m : Int) ≤ n := by omega
  have m2 : m ≤ n := by omega
  have m4 : ¬ cap = m := by omega
  have hcl := fun (c ty : Nat) => run_clear_row w3 ty g (m * 2) c (ownsRow_some (k := 2) (cap := cap) hown3 (m * 2) (by omega)) (ownsRow_some (k := 2) (cap := cap) hown3 (m * 2 + 1) (by omega)) (World.ownsRow.frozenAt hown3 _) (World.ownsRow.frozenAt hown3 _)
  have HO3 := Lib.hid hown3
  clear hown hown3 hgrow3 HD HK hm hz0 hz1 hz2 hinf
  go_wp2_with fail
  all_goals
    (try have hce : cap = i + 1 := by assumption)
    (try rw [← hce])
    go_ret
    refine ⟨?_, ?_, ?_⟩
    · first | rfl | (rw [hce]; rfl)
    · have HF : OwnsR _ B 39 (.slice (some ⟨g, 0, none⟩) m cap) m (fun t => a (past i t)) (fun t => s (past i t)) := ownsRow_behind (k := 2) (o := m * 2 + 1) (ownsRow_behind (k := 2) (o := m * 2) HO3.out (Nat.le_refl _) (.int .i64 0)) (by omega) (.string ⟨#[]⟩)
      first | exact HF | (rw [← hce]; exact HF)
    · exact (hK3.out.trans (Kept.of_grown (setCell_grown _ _ _) (fun k hk => by injection hk with hk; exact hk.symm))).trans (Kept.of_grown (setCell_grown _ _ _) (fun k hk => by injection hk with hk; exact hk.symm))
end Go.Proofs.Ythmbpoldjddheaa
