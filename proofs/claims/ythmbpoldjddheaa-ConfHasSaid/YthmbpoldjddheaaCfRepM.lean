/- slices.Repeat of one row of compline/api.Member (made by gen_cf3.py). -/
import Derived.Test.YthmbpoldjddheaaCfCopy
import Derived.Test.YthmbpoldjddheaaShelf
namespace Go.Proofs.Ythmbpoldjddheaa
open Go.ChangeShapes Go.WideShapes Go.ChangeAt Go.RowKit
theorem infoM : (Try.prog.info? 77).map (fun i => (i.zero, i.size, i.bytes)) = some (some (.agg #[.int .i64 0, .int .i64 0]), 2, 16) := by kernel_rfl
set_option maxRecDepth 100000 in
theorem makeM (n : Nat) (hn : n ≤ 1000) (W : World) : (Instr.makeSlice 63 (.int .i64 (n : Int)) (.int .i64 (n : Int))).run Try.prog W = .ok (.slice (some ⟨W.heap.size, 0, none⟩) n n) (W.alloc (.cells (part (.int .i64 0) (.int .i64 0) (.int .i64 0) n 0).toArray 77)) := by
  obtain ⟨i0, hinf, hz0, hz1, hz2⟩ := info_parts' infoM
  have h := run_makeSlice (P := Try.prog) W 63 77 i0 (.agg #[.int .i64 0, .int .i64 0]) Try.underlying63 hinf hz0 .i64 .i64 n n (by omega) (Int.le_refl _) (by rw [hz1]; omega) (by rw [hz2]; omega) (by omega)
  rw [hz1] at h
  rw [← made_part]
  simpa [Value.cells] using h
set_option maxHeartbeats 4000000 in
set_option maxRecDepth 100000 in
theorem repeatM (g n : Nat) (a b : Int) (h1 : 1 ≤ n) (hn : n ≤ 100) (w : World) (h : w.heap[g]? = some (.cells #[.int .i64 a, .int .i64 b] 77 (0, 0))) :
    Calls Try.prog 70 #[.slice (some ⟨g, 0, none⟩) 1 1, .int .i64 (n : Nat)] w (fun e w' => Below w.heap.size w w' ∧ e = .returned (.slice (some ⟨w.heap.size, 0, none⟩) n n) ∧ w'.heap[w.heap.size]? = some (.cells (prs (.int .i64 a) (.int .i64 b) n).toArray 77 (0, 0))) := by
  have HM : Hid (∀ W, Calls Try.prog 93 #[.int .u64 1, .int .u64 (n : Nat)] W (fun e w' => e = .returned (.tuple #[.int .u64 0, .int .u64 (n : Nat)]) ∧ w' = W)) := fun W => by
    have h := Go.Proofs.Try.bits_Mul 1 n (by omega) (by omega) W
    rw [show 1 * n / 18446744073709551616 = 0 by omega, show 1 * n % 18446744073709551616 = n by omega] at h
    exact h
  have hmk := fun W => makeM n (by omega) W
  have c0 : w.cell? ⟨g, 0, none⟩ = some (.int .i64 a) := by simp [World.cell?, h]
  have c1 : w.cell? ⟨g, 1, none⟩ = some (.int .i64 b) := by simp [World.cell?, h]
  have HG := Lib.hid h
  have HN : Hid (1 ≤ n ∧ n ≤ 100) := ⟨h1, hn⟩
  have n0 : decide ((n : Int) < 0) = false := decide_eq_false (by omega)
  have n1 : (0 : Int) ≤ (n : Int) := by omega
  have n2 : (n : Int) ≤ 100 := by omega
  have g1 : IntKind.u64.wrap (n : Int) = (n : Int) := by unfold IntKind.wrap; simp [IntKind.signed, IntKind.bits]; omega
  have g2 : IntKind.i64.wrap (n : Int) = (n : Int) := by unfold IntKind.wrap; simp [IntKind.signed, IntKind.bits]; omega
  have g3 : wrap64 (n : Int) = (n : Int) := Go.IntWalk.wrap64_in _ (by omega)
  have g4 : decide ((9223372036854775807 : Int) < (n : Int)) = false := decide_eq_false (by omega)
  have g5 : decide (9223372036854775807 < n) = false := decide_eq_false (by omega)
  clear h h1 hn
  go_enter Try.func70, Try.ntmps70
  go_wp2_with fail
  refine (HM.out _).mono ?_
  rintro e w1 ⟨rfl, rfl⟩
  have hsz : (Try.prog.info? 77).map (·.size) = some 2 := by obtain ⟨i0, hinf, hz0, hz1, hz2⟩ := info_parts' infoM; rw [hinf]; exact congrArg some hz1
  obtain ⟨w2, hcp, HG2, HB2⟩ : ∃ w2, (Builtin.copy_ #[63, 63] 3 #[.slice (some ⟨w1.heap.size, 0, none⟩) n n, .slice (some ⟨g, 0, none⟩) 1 1]).run Try.prog (w1.alloc (.cells (part (.int .i64 0) (.int .i64 0) (.int .i64 0) n 0).toArray 77)) = .ok (goInt 1) w2 ∧ Hid (w2.heap[w1.heap.size]? = some (.cells (splice (part (.int .i64 0) (.int .i64 0) (.int .i64 0) n 0) 0 [.int .i64 a, .int .i64 b]).toArray 77 (0, 0))) ∧ Hid (Below w1.heap.size w1 w2) := by
    have hh : (w1.alloc (.cells (part (.int .i64 0) (.int .i64 0) (.int .i64 0) n 0).toArray 77)).heap[w1.heap.size]? = some (.cells (part (.int .i64 0) (.int .i64 0) (.int .i64 0) n 0).toArray 77 (0, 0)) := heap_alloc_new _ _
    have hf : 0 + [Value.int .i64 a, Value.int .i64 b].length ≤ (part (.int .i64 0) (.int .i64 0) (.int .i64 0) n 0).toArray.size := by
      have := part_length (.int .i64 0) (.int .i64 0) (.int .i64 0) n 0 (Nat.zero_le _)
      have := HN.out
      simp only [List.size_toArray, List.length_cons, List.length_nil]
      omega
    have h := run_copy_two (P := Try.prog) (w1.alloc (.cells (part (.int .i64 0) (.int .i64 0) (.int .i64 0) n 0).toArray 77)) 63 63 3 77 w1.heap.size 0 n n ⟨g, 0, none⟩ 1 1 1 (part (.int .i64 0) (.int .i64 0) (.int .i64 0) n 0).toArray 77 [.int .i64 a, .int .i64 b] Try.underlying63 hsz (by have := HN.out; show min 1 n = 1; omega) hh rfl (news_two _ (keepA HG.out _)) hf (prs_one (n := 1) rfl rfl)
    refine ⟨_, h, ?_, ?_⟩
    · show _ = _
      simpa [splice] using setRow_heap _ w1.heap.size _ _ 77 _ hh
    · exact below_setRow ((Below.refl _ _).alloc (Nat.le_refl _) _) (Nat.le_refl _) _
  go_wp2_with fail
  clear hcp
  have HG3 : Hid (w2.heap[w1.heap.size]? = some (.cells (part (.int .i64 a) (.int .i64 b) (.int .i64 0) n 1).toArray 77 (0, 0))) := by
    have h := HG2.out
    rwa [show splice (part (.int .i64 0) (.int .i64 0) (.int .i64 0) n 0) 0 [Value.int .i64 a, Value.int .i64 b] = part (.int .i64 a) (.int .i64 b) (.int .i64 0) n 1 from part_splice (.int .i64 a) (.int .i64 b) (.int .i64 0) n 0 1 (by have := HN.out; omega)] at h
  clear HG2 c0 c1 hmk
  try clear n0
  try clear g1
  try clear g2
  try clear g3
  try clear g4
  try clear g5
  go_loopw [8] (fun iv wr => ∃ m : Nat, 1 ≤ m ∧ m ≤ n ∧ iv = .int .i64 m ∧ Hid (wr.heap[w1.heap.size]? = some (.cells (part (.int .i64 a) (.int .i64 b) (.int .i64 0) n m).toArray 77 (0, 0))) ∧ Hid (Below w1.heap.size w1 wr)) (fun iv _ => n - (intOf iv).toNat)
  case atStart => exact ⟨1, Nat.le_refl _, HN.out.1, by first | rfl | go_num, HG3.out, HB2.out⟩
  case round =>
    clear HG3 HB2
    obtain ⟨m, hm1, hm, rfl, HG3, HB2⟩ := hrel
    have hm2 : (m : Int) ≤ n := by omega
    by_cases hlt : m < n
    · have hlt2 : (m : Int) < n := by omega
      have hm0 : (0 : Int) ≤ (m : Int) := by omega
      obtain ⟨k, hk⟩ : ∃ k, Nat.min m (n - m) = k := ⟨_, rfl⟩
      have HK : Hid (1 ≤ k ∧ m + k ≤ n ∧ k ≤ m) := by
        show _ ∧ _
        have : min m (n - m) = k := hk
        omega
      have HKK := Lib.hid hk
      have HL := Lib.hid (And.intro hm1 hlt)
      clear hk hlt hm hm1
      obtain ⟨w3, hcp, HG4, HB4⟩ : ∃ w3, (Builtin.copy_ #[63, 63] 3 #[.slice (some ⟨w1.heap.size, m * 2, none⟩) (n - m) (n - m), .slice (some ⟨w1.heap.size, 0, none⟩) m n]).run Try.prog wr.drew = .ok (goInt k) w3 ∧ Hid (w3.heap[w1.heap.size]? = some (.cells (part (.int .i64 a) (.int .i64 b) (.int .i64 0) n (m + k)).toArray 77 (0, 0))) ∧ Hid (Below w1.heap.size w1 w3) := by
        have hh : wr.drew.heap[w1.heap.size]? = some (.cells (part (.int .i64 a) (.int .i64 b) (.int .i64 0) n m).toArray 77 (0, 0)) := HG3.out
        have h := run_copy_two (P := Try.prog) wr.drew 63 63 3 77 w1.heap.size (m * 2) (n - m) (n - m) ⟨w1.heap.size, 0, none⟩ m n k (part (.int .i64 a) (.int .i64 b) (.int .i64 0) n m).toArray 77 (prs (.int .i64 a) (.int .i64 b) k) Try.underlying63 hsz HKK.out hh (prs_length _ _ _) (part_src hh HK.out.2.2) (by simpa using part_fit HK.out.2.1) (prs_one rfl rfl k)
        refine ⟨_, h, ?_, ?_⟩
        · show _ = _
          rw [← part_splice _ _ _ _ _ _ HK.out.2.1]
          simpa [splice] using setRow_heap _ w1.heap.size _ _ 77 _ hh
        · exact below_setRow HB2.out.drew (Nat.le_refl _) _
      have hne : ¬ n = m := by have := HL.out; omega
      have gk : goInt k = .int .i64 (k : Int) := rfl
      obtain ⟨q, hq⟩ : ∃ q : Nat, q = m + k := ⟨_, rfl⟩
      have gq : (m : Int) + (k : Int) = (q : Int) := by omega
      have gw : wrap64 (q : Int) = (q : Int) := Go.IntWalk.wrap64_in _ (by have := HK.out; omega)
      have HQ := Lib.hid hq
      clear hq
      go_wp2_with fail
      go_region
      all_goals
        go_wp2_with fail
        rw [gw]
        have h1 := HK.out
        have h2 := HQ.out
        have h3 := HL.out
        refine ⟨⟨q, by omega, by omega, rfl, by rw [h2]; exact HG4.out, HB4.out⟩, ?_⟩
        simp [intOf]
        omega
    · obtain rfl : m = n := by omega
      clear hlt hm hm2
      go_wp2_with fail
      go_ret
      exact ⟨HB2.out, rfl, by have h := HG3.out; unfold part at h; rwa [Nat.sub_self, show prs (Value.int .i64 0) (.int .i64 0) 0 = [] from rfl, List.append_nil] at h⟩
end Go.Proofs.Ythmbpoldjddheaa
