/- The disk's Crash and the document's. -/
import Derived.Test.YtbpaongnehgodaaDoorDskRef
namespace Go.Proofs.YtbpaongnehgodaaDoor
open Go.ChangeShapes Go.WideShapes Go.ChangeAt Go.RowKit
/-- How many bytes are kept. -/
def keptN (t : ByteArray) (n : Int) : Nat := min n.toNat t.size
/-- What Crash answers. -/
def crashV (s t : ByteArray) (f : Int) (d : Bool) (n : Int) : Value :=
  if f < -1 then .tuple #[.agg #[.string s, .string t, .int .i64 f, .bool d], .int .i64 1] else .tuple #[.agg #[.string (s ++ t.extract 0 (keptN t n)), .string ⟨#[]⟩, .int .i64 (-1), .bool false], .int .i64 0]
theorem ext_size (t : ByteArray) (k : Nat) (h : k ≤ t.size) : (t.extract 0 k).size = k := by simp; omega
set_option maxHeartbeats 4000000 in
theorem dcrash_any (s t : ByteArray) (f : Int) (d : Bool) (h : Small s t) (n : Int) (w : World) :
    Calls Tryd.prog 9 #[.agg #[.string s, .string t, .int .i64 f, .bool d], .int .i64 n] w (Ret (crashV s t f d n) w) := by
  have HCK := Lib.hid (fun W => dcheck_any s t f d h W)
  have hk : keptN t n ≤ t.size := Nat.min_le_right _ _
  have hadd : ∀ W, (Op.stringOp .add s (t.extract 0 (keptN t n))).run Tryd.prog W = .ok (.string (s ++ t.extract 0 (keptN t n))) W := fun W => run_string_add W s _ (by have := h.1; omega) (by rw [ext_size _ _ hk]; have := h.2; omega)
  have hmin : min (max n 0) (t.size : Int) = (keptN t n : Nat) := by unfold keptN; omega
  by_cases hf1 : f < -1
  · rw [show crashV s t f d n = _ from if_pos hf1]
    rw [show dchk f = 1 from if_pos hf1] at HCK
    clear hf1 h hadd hmin hk
    go_enter Tryd.func9, Tryd.ntmps9
    go_wp2_with fail
    refine (HCK.out _).mono ?_
    rintro e w1 ⟨rfl, h1⟩
    obtain ⟨hb1, hz1, hbw⟩ := box_two h1
    have HB := Lib.hid hbw
    have HZ := Lib.hid hz1
    obtain ⟨k0, k1, k2, k3⟩ := four_read hb1
    obtain ⟨i0, i1, i2, i3⟩ := four_read hz1
    have j0 := four_free hz1 0
    have j1 := four_free hz1 1
    have j2 := four_free hz1 2
    have j3 := four_free hz1 3
    clear h1 hb1 hbw hz1
    obtain ⟨⟨f0, f1⟩, f2, f3⟩ := four_cells HZ.out (.string s) (.string t) (.int .i64 f) (.bool d)
    go_wp2_with fail
    (try simp only [Exit.inBlock, Exit.then])
    refine bodyPost_ret (v := .tuple #[.agg #[.string s, .string t, .int .i64 f, .bool d], .int .i64 1]) (by simp [results, Tryd.results9, go_sem, f0, f1, f2, f3]) rfl ?_
    exact ⟨rfl, below_four HB.out (by simp) _ _ _ _⟩
  · rw [show crashV s t f d n = _ from if_neg hf1]
    rw [show dchk f = 0 from if_neg hf1] at HCK
    have hz0 : (0 : Int) ≤ (t.size : Int) := by omega
    have ht4 : t.size ≤ 4000 := h.2
    have ht5 : (t.size : Int) ≤ 4000 := by omega
    rcases (show n < 0 ∨ (0 ≤ n ∧ n ≤ t.size) ∨ (t.size : Int) < n by omega) with hn | ⟨hn0, hn⟩ | hn
    · have hk1 : keptN t n = 0 := by unfold keptN; omega
      rw [hk1] at hadd ⊢
      rw [show s ++ t.extract 0 0 = s by simp]
      have g3 : ¬ 9223372036854775807 < s.size := by have := h.1; omega
      have g1 : decide (n < 0) = true := decide_eq_true hn
      have g2 : ¬ 0 ≤ n := by omega
      clear hf1 h hk1 hmin hk hadd
      go_enter Tryd.func9, Tryd.ntmps9
      go_wp2_with fail
      refine (HCK.out _).mono ?_
      rintro e w1 ⟨rfl, h1⟩
      obtain ⟨hb1, hz1, hbw⟩ := box_two h1
      have HB := Lib.hid hbw
      have HZ := Lib.hid hz1
      obtain ⟨k0, k1, k2, k3⟩ := four_read hb1
      obtain ⟨i0, i1, i2, i3⟩ := four_read hz1
      have j0 := four_free hz1 0
      have j1 := four_free hz1 1
      have j2 := four_free hz1 2
      have j3 := four_free hz1 3
      clear h1 hb1 hbw hz1
      obtain ⟨⟨f0, f1⟩, f2, f3⟩ := four_cells HZ.out (.string s) (.string ⟨#[]⟩) (.int .i64 (-1)) (.bool false)
      go_wp2_with fail
      go_region
      all_goals
        go_wp2_with fail
        (try simp only [Exit.inBlock, Exit.then])
        refine bodyPost_ret (v := .tuple #[.agg #[.string s, .string ⟨#[]⟩, .int .i64 (-1), .bool false], .int .i64 0]) (by simp [results, Tryd.results9, go_sem, f0, f1, f2, f3]) rfl ?_
        exact ⟨rfl, below_drewN (below_four HB.out (by simp) _ _ _ _) 1⟩
    · obtain ⟨k, rfl⟩ : ∃ k : Nat, n = k := ⟨n.toNat, by omega⟩
      have hk1 : keptN t (k : Nat) = k := by unfold keptN; omega
      rw [hk1] at hadd ⊢
      obtain ⟨S, hS⟩ : ∃ S, s ++ t.extract 0 k = S := ⟨_, rfl⟩
      rw [hS] at hadd ⊢
      have g1 : decide ((k : Int) < 0) = false := decide_eq_false (by omega)
      have g2 : ¬ (k : Int) < 0 := by omega
      have g3 : k ≤ t.size := by omega
      clear hf1 h hS hk1 hmin hk
      go_enter Tryd.func9, Tryd.ntmps9
      go_wp2_with fail
      refine (HCK.out _).mono ?_
      rintro e w1 ⟨rfl, h1⟩
      obtain ⟨hb1, hz1, hbw⟩ := box_two h1
      have HB := Lib.hid hbw
      have HZ := Lib.hid hz1
      obtain ⟨k0, k1, k2, k3⟩ := four_read hb1
      obtain ⟨i0, i1, i2, i3⟩ := four_read hz1
      have j0 := four_free hz1 0
      have j1 := four_free hz1 1
      have j2 := four_free hz1 2
      have j3 := four_free hz1 3
      clear h1 hb1 hbw hz1
      obtain ⟨⟨f0, f1⟩, f2, f3⟩ := four_cells HZ.out (.string S) (.string ⟨#[]⟩) (.int .i64 (-1)) (.bool false)
      go_wp2_with fail
      go_region
      all_goals
        go_wp2_with fail
        (try simp only [Exit.inBlock, Exit.then])
        refine bodyPost_ret (v := .tuple #[.agg #[.string S, .string ⟨#[]⟩, .int .i64 (-1), .bool false], .int .i64 0]) (by simp [results, Tryd.results9, go_sem, f0, f1, f2, f3]) rfl ?_
        exact ⟨rfl, below_drewN (below_four HB.out (by simp) _ _ _ _) 1⟩
    · have hk1 : keptN t n = t.size := by unfold keptN; omega
      rw [hk1] at hadd ⊢
      have hadd2 : ∀ W, (Op.stringOp .add s t).run Tryd.prog W = .ok (.string (s ++ t)) W := fun W => run_string_add W s t (by have := h.1; omega) (by omega)
      rw [show s ++ t.extract 0 t.size = s ++ t by simp]
      obtain ⟨S, hS⟩ : ∃ S, s ++ t = S := ⟨_, rfl⟩
      rw [hS] at hadd2 ⊢
      have g1 : decide (n < 0) = false := decide_eq_false (by omega)
      have g2 : ¬ n < 0 := by omega
      have g3 : ¬ n ≤ (t.size : Int) := by omega
      clear hf1 h hS hk1 hmin hk hadd
      go_enter Tryd.func9, Tryd.ntmps9
      go_wp2_with fail
      refine (HCK.out _).mono ?_
      rintro e w1 ⟨rfl, h1⟩
      obtain ⟨hb1, hz1, hbw⟩ := box_two h1
      have HB := Lib.hid hbw
      have HZ := Lib.hid hz1
      obtain ⟨k0, k1, k2, k3⟩ := four_read hb1
      obtain ⟨i0, i1, i2, i3⟩ := four_read hz1
      have j0 := four_free hz1 0
      have j1 := four_free hz1 1
      have j2 := four_free hz1 2
      have j3 := four_free hz1 3
      clear h1 hb1 hbw hz1
      obtain ⟨⟨f0, f1⟩, f2, f3⟩ := four_cells HZ.out (.string S) (.string ⟨#[]⟩) (.int .i64 (-1)) (.bool false)
      go_wp2_with fail
      go_region
      all_goals
        go_wp2_with fail
        (try simp only [Exit.inBlock, Exit.then])
        refine bodyPost_ret (v := .tuple #[.agg #[.string S, .string ⟨#[]⟩, .int .i64 (-1), .bool false], .int .i64 0]) (by simp [results, Tryd.results9, go_sem, f0, f1, f2, f3]) rfl ?_
        exact ⟨rfl, below_drewN (below_four HB.out (by simp) _ _ _ _) 1⟩
end Go.Proofs.YtbpaongnehgodaaDoor
