/- The document's Crash. -/
import Derived.Test.YthmbpoldjddheaaDskCrash
namespace Go.Proofs.Ythmbpoldjddheaa
open Go.ChangeShapes Go.WideShapes Go.ChangeAt Go.RowKit
/-- What is synced, and the first i bytes of what waits. -/
def pre (s t : ByteArray) (i : Nat) : ByteArray := s ++ t.extract 0 i
theorem pre_next (s t : ByteArray) (i : Nat) : pre s t i ++ t.extract i (i + 1) = pre s t (i + 1) := by
  unfold pre
  rw [ByteArray.append_assoc]
  congr 1
  simp
theorem pre_size (s t : ByteArray) (i : Nat) (hi : i ≤ t.size) : (pre s t i).size = s.size + i := by
  unfold pre
  simp
  omega
set_option maxHeartbeats 4000000 in
set_option maxRecDepth 100000 in
theorem refcrash_any (s t : ByteArray) (f : Int) (d : Bool) (h : Small s t) (n : Int) (w : World) :
    Calls Try.prog 32 #[.agg #[.string s, .string t, .int .i64 f, .bool d], .int .i64 n] w (Ret (crashV s t f d n) w) := by
  have HWR := Lib.hid (fun W => refwrong_any s t f d h W)
  by_cases hf1 : f < -1
  · rw [show crashV s t f d n = _ from if_pos hf1]
    rw [rwr_1 hf1] at HWR
    clear hf1 h
    go_enter Try.func32, Try.ntmps32
    go_wp2_with fail
    refine (HWR.out _).mono ?_
    rintro e w1 ⟨rfl, h1⟩
    obtain ⟨hb1, hz1, hbw⟩ := box_two h1
    have HB := Lib.hid hbw
    have HZ := Lib.hid hz1
    obtain ⟨k0, k1, k2, k3⟩ := four_read hb1
    obtain ⟨i0, i1, i2, i3⟩ := four_read hz1
    have j0 := four_free hz1 0
    have j1 := four_free hz1 1
    have j2 := four_free hz1 2
    have j3 := four_free hz1 3
    clear h1 hb1 hbw hz1
    obtain ⟨⟨f0, f1⟩, f2, f3⟩ := four_cells HZ.out (.string s) (.string t) (.int .i64 f) (.bool d)
    go_wp2_with fail
    (try simp only [Exit.inBlock, Exit.then])
    refine bodyPost_ret (v := .tuple #[.agg #[.string s, .string t, .int .i64 f, .bool d], .int .i64 1]) (by simp [results, Try.results32, go_sem, f0, f1, f2, f3]) rfl ?_
    exact ⟨rfl, below_four HB.out (by simp) _ _ _ _⟩
  · rw [show crashV s t f d n = .tuple #[.agg #[.string (pre s t (keptN t n)), .string ⟨#[]⟩, .int .i64 (-1), .bool false], .int .i64 0] from if_neg hf1]
    obtain ⟨e, he, hee⟩ : ∃ e, rwr f d = e ∧ (e == 1) = false := by
      cases d with
      | true => exact ⟨16, rwr_16 hf1, rfl⟩
      | false => exact ⟨0, rwr_0 hf1, rfl⟩
    rw [he] at HWR
    obtain ⟨k, hkk⟩ : ∃ k, keptN t n = k := ⟨_, rfl⟩
    have HK : Hid (k ≤ t.size ∧ (k : Int) = min (max n 0) t.size) := by
      subst hkk
      show _ ∧ _
      unfold keptN
      omega
    have HS : Hid (s.size ≤ 4000 ∧ t.size ≤ 4000) := h
    rw [hkk]
    clear hf1 h hkk he
    go_enter Try.func32, Try.ntmps32
    go_wp2_with fail
    refine (HWR.out _).mono ?_
    rintro e' w1 ⟨rfl, h1⟩
    obtain ⟨hb1, hz1, hbw⟩ := box_two h1
    have HB := Lib.hid hbw
    have HZ := Lib.hid hz1
    obtain ⟨k0, k1, k2, k3⟩ := four_read hb1
    clear h1 hb1 hbw hz1
    go_wp2_with fail
    go_loopw [6, 7] (fun sv iv wr => ∃ i : Nat, i ≤ k ∧ sv = .string (pre s t i) ∧ iv = .int .i64 i ∧ wr = w1) (fun _ iv _ => k - (intOf iv).toNat)
    case atStart => exact ⟨0, Nat.zero_le _, by unfold pre; simp, rfl, rfl⟩
    case round =>
      obtain ⟨i, hi, rfl, rfl, rfl⟩ := hrel
      by_cases hlt : i < k
      · have c1 : decide ((i : Int) < n) = true := decide_eq_true (by have := HK.out.2; omega)
        have c2 : decide ((i : Int) < (t.size : Int)) = true := decide_eq_true (by have := HK.out.1; omega)
        have c3 : decide (i < t.size) = true := decide_eq_true (by have := HK.out.1; omega)
        obtain ⟨m, hm⟩ : ∃ m : Nat, m = i + 1 := ⟨_, rfl⟩
        have c4 : (i : Int) + 1 = (m : Int) := by omega
        have c5 : m ≤ t.size := by have := HK.out.1; omega
        have c6 : (m : Int) ≤ (t.size : Int) := by omega
        have c7 : (i : Int) ≤ (m : Int) := by omega
        have cw : wrap64 (m : Int) = (m : Int) := Go.IntWalk.wrap64_in _ (by have := HS.out.2; omega)
        have c8 : i ≤ m := by omega
        have hadd : ∀ W, (Op.stringOp .add (pre s t i) (t.extract i m)).run Try.prog W = .ok (.string (pre s t m)) W := fun W => by
          rw [hm, ← pre_next s t i]
          exact run_string_add W _ _ (by rw [pre_size _ _ _ (by omega)]; have := HS.out; omega) (by simp; omega)
        have HMI := Lib.hid hm
        clear hm
        have HL := Lib.hid hlt
        clear hlt hi
        go_wp2_with fail
        rw [cw]
        refine ⟨⟨m, by have := HMI.out; have := HL.out; omega, rfl, rfl, trivial⟩, ?_⟩
        have := HMI.out
        have := HL.out
        simp [intOf]
        omega
      · obtain rfl : i = k := by omega
        have e1 : ¬ ((i : Int) < n ∧ (i : Int) < (t.size : Int)) := by have := HK.out; omega
        obtain ⟨i0, i1, i2, i3⟩ := four_read HZ.out
        have j0 := four_free HZ.out 0
        have j1 := four_free HZ.out 1
        have j2 := four_free HZ.out 2
        have j3 := four_free HZ.out 3
        obtain ⟨⟨f0, f1⟩, f2, f3⟩ := four_cells HZ.out (.string (pre s t i)) (.string ⟨#[]⟩) (.int .i64 (-1)) (.bool false)
        by_cases hn : (i : Int) < n
        · have c1 : decide ((i : Int) < n) = true := decide_eq_true hn
          have c2 : decide ((i : Int) < (t.size : Int)) = false := decide_eq_false (by omega)
          have c3 : decide (i < t.size) = false := decide_eq_false (by omega)
          clear e1 hi hlt hn
          go_wp2_with fail
          (try simp only [Exit.inBlock, Exit.then])
          refine bodyPost_ret (v := .tuple #[.agg #[.string (pre s t i), .string ⟨#[]⟩, .int .i64 (-1), .bool false], .int .i64 0]) (by simp [results, Try.results32, go_sem, f0, f1, f2, f3]) rfl ?_
          exact ⟨rfl, below_four HB.out (by simp) _ _ _ _⟩
        · have c1 : decide ((i : Int) < n) = false := decide_eq_false hn
          clear e1 hi hlt hn
          go_wp2_with fail
          (try simp only [Exit.inBlock, Exit.then])
          refine bodyPost_ret (v := .tuple #[.agg #[.string (pre s t i), .string ⟨#[]⟩, .int .i64 (-1), .bool false], .int .i64 0]) (by simp [results, Try.results32, go_sem, f0, f1, f2, f3]) rfl ?_
          exact ⟨rfl, below_four HB.out (by simp) _ _ _ _⟩
end Go.Proofs.Ythmbpoldjddheaa
