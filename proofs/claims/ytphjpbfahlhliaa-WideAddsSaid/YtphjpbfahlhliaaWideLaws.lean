/- The helpers of the statements of layer 2: awake and same; WideDivs and WideBack's walks. -/
import Derived.Test.YtphjpbfahlhliaaWideTop
import Derived.Deep.QuietTactic
import Derived.BigQuiet
import Derived.Deep.RegionWith
namespace Go.Proofs.Ytphjpbfahlhliaa
open Go.ChangeShapes Go.WideShapes Go.ChangeAt Go.RowKit
theorem awake_div : divV (9223372036854775808 * 6) 4 = .tuple #[.int .u64 13835058055282163712, .int .u64 0, .int .i64 0] := by
  rw [divV, if_neg (by omega), if_neg (by omega)]
  have e1 : 9223372036854775808 * 6 / 4 = 13835058055282163712 := by omega
  have e2 : 9223372036854775808 * 6 % 4 = 0 := by omega
  rw [e1, e2]
  rfl
set_option maxHeartbeats 400000 in
theorem awake_any (w : World) : Calls Try.prog 8 #[] w (Ret (.bool true) w) := by
  have H := Lib.hid (fun (w : World) => muldiv_any 9223372036854775808 6 4 (by omega) (by omega) (by omega) w)
  rw [awake_div] at H
  go_enter Try.func8, Try.ntmps8
  go_wp2_with fail
  refine (H.out _).mono ?_
  rintro e w1 ⟨rfl, h1⟩
  go_wp2
  go_returns
  exact ⟨rfl, h1⟩
/-- What a division tells, its numbers named. -/
theorem divV_cases (N c : Nat) : ∃ q r : Nat, ∃ e : Int, divV N c = .tuple #[.int .u64 (q : Nat), .int .u64 (r : Nat), .int .i64 e] := by
  unfold divV
  split
  · exact ⟨0, 0, 1, rfl⟩
  · split
    · exact ⟨0, 0, 2, rfl⟩
    · exact ⟨_, _, 0, rfl⟩
set_option maxHeartbeats 400000 in
theorem divs_walk (h l c : Nat) (hh : h < 18446744073709551616) (hl : l < 18446744073709551616) (hc : c < 18446744073709551616) (w : World) :
    Calls Try.prog 5 #[.agg #[.int .u64 h, .int .u64 l], .int .u64 c] w fun e w' => e = .returned (.bool true) ∧ Below w.heap.size w w' := by
  have hN : h * 18446744073709551616 + l < 340282366920938463463374607431768211456 := by omega
  have HW := Lib.hid (wv_of h l hl)
  have H1 := Lib.hid (fun (w : World) => wdiv_any (h * 18446744073709551616 + l) c hN hc w)
  have H2 := Lib.hid (fun (w : World) => of_any h l hh hl w)
  have H3 : Hid (∀ w : World, Calls Try.prog 19 #[numV (h * 18446744073709551616 + l), .int .u64 c] w (Ret (divV (h * 18446744073709551616 + l) c) w)) := by
    intro w
    rcases Nat.eq_zero_or_pos c with rfl | c0
    · exact div_zero _ w
    · exact div_any _ c hN c0 (by omega) w
  obtain ⟨q, r, x, hx⟩ := divV_cases (h * 18446744073709551616 + l) c
  rw [hx] at H1 H3
  rw [HW.out] at H1
  clear hx HW hN hh hl hc
  go_enter Try.func5, Try.ntmps5
  go_wp2_with fail
  refine (H1.out _).mono ?_
  rintro e w1 ⟨rfl, h1⟩
  have c1 : w1.cell? ⟨w.heap.size, 0, none⟩ = some (.int .u64 h) := by rw [h1.cell (by simp)]; go_cell
  have c2 : w1.cell? ⟨w.heap.size, 1, none⟩ = some (.int .u64 l) := by rw [h1.cell (by simp)]; go_cell
  go_wp2_with fail
  refine (H2.out _).mono ?_
  rintro e w2 ⟨rfl, h2⟩
  generalize numV (h * 18446744073709551616 + l) = V at H3
  go_wp2_with fail
  refine (H3.out _).mono ?_
  rintro e w3 ⟨rfl, h3⟩
  go_wp2_with fail
  refine (awake_any _).mono ?_
  rintro e w4 ⟨rfl, h4⟩
  go_wp2
  go_returns
  have b1 := ((Below.refl _ _).alloc (Nat.le_refl _) _).trans (h1.mono (by simp))
  have b2 := b1.trans (h2.mono b1.size)
  have b3 := b2.trans (h3.mono b2.size)
  exact ⟨rfl, b3.trans (h4.mono b3.size)⟩
/-- What was there reads as it did, cell by cell. -/
theorem old_cells {W w1 : World} (h : Below W.heap.size W w1) : (∀ b o, b < W.heap.size → w1.cell? ⟨b, o, none⟩ = W.cell? ⟨b, o, none⟩) ∧ (∀ b o, b < W.heap.size → w1.frozen? ⟨b, o, none⟩ = W.frozen? ⟨b, o, none⟩) :=
  ⟨fun _ _ l => h.cell (p := ⟨_, _, none⟩) l, fun _ _ l => h.frozen (p := ⟨_, _, none⟩) l⟩
theorem of_hi (hi : Nat) (h : hi < 18446744073709551616) (w : World) :
    Calls Try.prog 13 #[.int .u64 hi, .int .u64 0] w (Ret (numV (hi * 18446744073709551616)) w) := by
  have h1 := of_any hi 0 h (by omega) w
  rw [Nat.add_zero] at h1
  exact h1
set_option maxHeartbeats 400000 in
theorem back_zero (a b : Nat) (ha : a < 18446744073709551616) (hb : b < 18446744073709551616) (w : World) :
    Calls Try.prog 6 #[.int .u64 a, .int .u64 b, .int .u64 0] w fun e w' => e = .returned (.bool true) ∧ Below w.heap.size w w' := by
  have H1 := Lib.hid (fun (w : World) => muldiv_any a b 0 ha hb (by omega) w)
  have e : divV (a * b) 0 = .tuple #[.int .u64 0, .int .u64 0, .int .i64 1] := by rw [divV, if_pos rfl]
  rw [e] at H1
  have H2 := Lib.hid (fun (w : World) => mul_any a b ha hb w)
  clear e ha hb
  go_enter Try.func6, Try.ntmps6
  go_wp2_with fail
  refine (H1.out _).mono ?_
  rintro e w1 ⟨rfl, h1⟩
  go_wp2_with fail
  refine (H2.out _).mono ?_
  rintro e w2 ⟨rfl, h2⟩
  unfold numV
  go_wp2_with fail
  refine (awake_any _).mono ?_
  rintro e w3 ⟨rfl, h3⟩
  go_wp2
  go_returns
  have b2 := h1.trans (h2.mono h1.size)
  have b3 := b2.alloc b2.size (.cells #[.int .u64 (dg (a * b) 0 : Nat), .int .u64 (dg (a * b) 1 : Nat), .int .u64 (dg (a * b) 2 : Nat), .int .u64 (dg (a * b) 3 : Nat), .int .u64 (dg (a * b) 4 : Nat), .int .u64 (dg (a * b) 5 : Nat), .int .u64 (dg (a * b) 6 : Nat), .int .u64 (dg (a * b) 7 : Nat)] 25)
  exact ⟨rfl, b3.trans (h3.mono b3.size)⟩
set_option maxHeartbeats 400000 in
theorem back_over (a b c : Nat) (ha : a < 18446744073709551616) (hb : b < 18446744073709551616) (hc : c < 18446744073709551616) (c0 : 0 < c) (ho : c * 18446744073709551616 ≤ a * b) (w : World) :
    Calls Try.prog 6 #[.int .u64 a, .int .u64 b, .int .u64 c] w fun e w' => e = .returned (.bool true) ∧ Below w.heap.size w w' := by
  have H1 := Lib.hid (fun (w : World) => muldiv_any a b c ha hb hc w)
  rw [divV_over c0 ho] at H1
  have H2 := Lib.hid (fun (w : World) => mul_any a b ha hb w)
  have H3 := Lib.hid (fun (w : World) => of_hi c hc w)
  have H4 := Lib.hid (fun (w : World) => cmp_any (a * b) (c * 18446744073709551616) (mul_lt ha hb) (by omega) w)
  have hz : 0 ≤ cmpN (a * b) (c * 18446744073709551616) := by unfold cmpN; rw [if_neg (by omega)]; split <;> omega
  have g1 : ((c : Int) == 0) = false := by rw [beq_eq_false_iff_ne]; omega
  generalize cmpN (a * b) (c * 18446744073709551616) = z at *
  clear ha hb hc c0 ho
  go_enter Try.func6, Try.ntmps6
  go_wp2_with fail
  refine (H1.out _).mono ?_
  rintro e w1 ⟨rfl, h1⟩
  go_wp2_with fail
  refine (H2.out _).mono ?_
  rintro e w2 ⟨rfl, h2⟩
  unfold numV
  go_wp2_with fail
  go_region_with (first | (go_at_call 8; refine (awake_any _).mono ?_; rintro e w3 ⟨rfl, h3⟩; obtain ⟨hc3, hf3⟩ := old_cells h3; have hz3 : w2.heap.size < w3.heap.size := by (have := h3.size; simp at this; omega)) | (go_at_call 13; refine (H3.out _).mono ?_; rintro e w4 ⟨rfl, h4⟩; obtain ⟨hc4, hf4⟩ := old_cells h4) | (go_at_call 12; refine (H4.out _).mono ?_; rintro e w5 ⟨rfl, h5⟩))
  all_goals
    go_wp2
    go_returns
    have b2 := h1.trans (h2.mono h1.size)
    have b3 := b2.alloc b2.size (.cells #[.int .u64 (dg (a * b) 0 : Nat), .int .u64 (dg (a * b) 1 : Nat), .int .u64 (dg (a * b) 2 : Nat), .int .u64 (dg (a * b) 3 : Nat), .int .u64 (dg (a * b) 4 : Nat), .int .u64 (dg (a * b) 5 : Nat), .int .u64 (dg (a * b) 6 : Nat), .int .u64 (dg (a * b) 7 : Nat)] 25)
    have b4 := b3.drew.trans (h3.mono b3.size)
    have b5 := b4.trans (h4.mono b4.size)
    exact ⟨rfl, b5.trans (h5.mono b5.size)⟩
/-- Digits are equal to themselves. -/
theorem eq_num (x0 x1 x2 x3 x4 x5 x6 x7 : Int) (w : World) :
    (Op.equalIn 10000 25 (.agg #[.int .u64 x0, .int .u64 x1, .int .u64 x2, .int .u64 x3, .int .u64 x4, .int .u64 x5, .int .u64 x6, .int .u64 x7]) (.agg #[.int .u64 x0, .int .u64 x1, .int .u64 x2, .int .u64 x3, .int .u64 x4, .int .u64 x5, .int .u64 x6, .int .u64 x7])).run Try.prog w = .ok true w := by
  rw [show (10000 : Nat) = 9998 + 1 + 1 from rfl]
  rw [Op.equalIn]
  simp only [Sem.run_bind, run_underlying Try.underlying25, Result.andThen_ok]
  simp [go_sem, List.range', Try.isAgg22, Try.underlying22]
theorem eq_guard : Try.prog.eqGuardType Try.prog.depth 25 = false := by kernel_rfl
set_option maxHeartbeats 400000 in
theorem back_fits (a b c : Nat) (ha : a < 18446744073709551616) (hb : b < 18446744073709551616) (hc : c < 18446744073709551616) (c0 : 0 < c) (ho : ¬ c * 18446744073709551616 ≤ a * b) (w : World) :
    Calls Try.prog 6 #[.int .u64 a, .int .u64 b, .int .u64 c] w fun e w' => e = .returned (.bool true) ∧ Below w.heap.size w w' := by
  have H1 := Lib.hid (fun (w : World) => muldiv_any a b c ha hb hc w)
  have eD : divV (a * b) c = .tuple #[.int .u64 (a * b / c : Nat), .int .u64 (a * b % c : Nat), .int .i64 0] := by rw [divV, if_neg (by omega), if_neg ho]
  rw [eD] at H1
  have hab := mul_lt ha hb
  have hq : a * b / c < 18446744073709551616 := (Nat.div_lt_iff_lt_mul c0).2 (by have := Nat.mul_comm c 18446744073709551616; omega)
  have hr : a * b % c < c := Nat.mod_lt _ c0
  have hs : a * b / c * c + a * b % c = a * b := by rw [Nat.mul_comm]; exact Nat.div_add_mod (a * b) c
  have hqc : a * b / c * c < 340282366920938463463374607431768211456 := by omega
  have H2 := Lib.hid (fun (w : World) => mul_any a b ha hb w)
  have H3 := Lib.hid (fun (w : World) => mul_any (a * b / c) c hq hc w)
  have H4 := Lib.hid (fun (w : World) => of_lo (a * b % c) (by omega) w)
  have H5 := Lib.hid (fun (w : World) => plus_any (a * b / c * c) (a * b % c) hqc (by omega) w)
  rw [hs, decide_eq_true hab] at H5
  generalize a * b / c = q at *
  generalize a * b % c = r at *
  generalize a * b = p at *
  generalize q * c = s at *
  have g1 : ((c : Int) == 0) = false := by rw [beq_eq_false_iff_ne]; omega
  have g2 : (r : Int) < c := by omega
  have g3 : decide (r < c) = true := by simp; omega
  clear eD hab hq hr hs hqc ha hb hc c0 ho
  go_enter Try.func6, Try.ntmps6
  go_wp2_with fail
  refine (H1.out _).mono ?_
  rintro e w1 ⟨rfl, h1⟩
  go_wp2_with fail
  refine (H2.out _).mono ?_
  rintro e w2 ⟨rfl, h2⟩
  unfold numV
  go_wp2_with fail
  refine (H3.out _).mono ?_
  rintro e w3 ⟨rfl, h3⟩
  generalize numV s = S at H5
  go_wp2_with fail
  refine (H4.out _).mono ?_
  rintro e w4 ⟨rfl, h4⟩
  generalize numV r = R at H5
  go_wp2_with fail
  refine (H5.out _).mono ?_
  rintro e w5 ⟨rfl, h5⟩
  unfold numV
  go_wp2_with fail
  refine (awake_any _).mono ?_
  rintro e w6 ⟨rfl, h6⟩
  have q5 := (h3.trans (h4.mono h3.size)).trans (h5.mono (Nat.le_trans h3.size h4.size))
  have q6 := (q5.alloc q5.size (.cells #[.int .u64 (dg p 0 : Nat), .int .u64 (dg p 1 : Nat), .int .u64 (dg p 2 : Nat), .int .u64 (dg p 3 : Nat), .int .u64 (dg p 4 : Nat), .int .u64 (dg p 5 : Nat), .int .u64 (dg p 6 : Nat), .int .u64 (dg p 7 : Nat)] 25)).trans (h6.mono (Nat.le_trans q5.size (by simp)))
  have x0 : w6.cell? ⟨w2.heap.size, 0, none⟩ = some (.int .u64 (dg p 0 : Nat)) := by rw [q6.cell (by simp)]; go_cell
  have y0 : w6.cell? ⟨w5.heap.size, 0, none⟩ = some (.int .u64 (dg p 0 : Nat)) := by rw [h6.cell (by simp)]; go_cell
  have x1 : w6.cell? ⟨w2.heap.size, 1, none⟩ = some (.int .u64 (dg p 1 : Nat)) := by rw [q6.cell (by simp)]; go_cell
  have y1 : w6.cell? ⟨w5.heap.size, 1, none⟩ = some (.int .u64 (dg p 1 : Nat)) := by rw [h6.cell (by simp)]; go_cell
  have x2 : w6.cell? ⟨w2.heap.size, 2, none⟩ = some (.int .u64 (dg p 2 : Nat)) := by rw [q6.cell (by simp)]; go_cell
  have y2 : w6.cell? ⟨w5.heap.size, 2, none⟩ = some (.int .u64 (dg p 2 : Nat)) := by rw [h6.cell (by simp)]; go_cell
  have x3 : w6.cell? ⟨w2.heap.size, 3, none⟩ = some (.int .u64 (dg p 3 : Nat)) := by rw [q6.cell (by simp)]; go_cell
  have y3 : w6.cell? ⟨w5.heap.size, 3, none⟩ = some (.int .u64 (dg p 3 : Nat)) := by rw [h6.cell (by simp)]; go_cell
  have x4 : w6.cell? ⟨w2.heap.size, 4, none⟩ = some (.int .u64 (dg p 4 : Nat)) := by rw [q6.cell (by simp)]; go_cell
  have y4 : w6.cell? ⟨w5.heap.size, 4, none⟩ = some (.int .u64 (dg p 4 : Nat)) := by rw [h6.cell (by simp)]; go_cell
  have x5 : w6.cell? ⟨w2.heap.size, 5, none⟩ = some (.int .u64 (dg p 5 : Nat)) := by rw [q6.cell (by simp)]; go_cell
  have y5 : w6.cell? ⟨w5.heap.size, 5, none⟩ = some (.int .u64 (dg p 5 : Nat)) := by rw [h6.cell (by simp)]; go_cell
  have x6 : w6.cell? ⟨w2.heap.size, 6, none⟩ = some (.int .u64 (dg p 6 : Nat)) := by rw [q6.cell (by simp)]; go_cell
  have y6 : w6.cell? ⟨w5.heap.size, 6, none⟩ = some (.int .u64 (dg p 6 : Nat)) := by rw [h6.cell (by simp)]; go_cell
  have x7 : w6.cell? ⟨w2.heap.size, 7, none⟩ = some (.int .u64 (dg p 7 : Nat)) := by rw [q6.cell (by simp)]; go_cell
  have y7 : w6.cell? ⟨w5.heap.size, 7, none⟩ = some (.int .u64 (dg p 7 : Nat)) := by rw [h6.cell (by simp)]; go_cell
  have he := fun (w : World) => eq_num (dg p 0) (dg p 1) (dg p 2) (dg p 3) (dg p 4) (dg p 5) (dg p 6) (dg p 7) w
  have hg := eq_guard
  go_wp2
  go_returns
  have b2 := h1.trans (h2.mono h1.size)
  have b3 := b2.alloc b2.size (.cells #[.int .u64 (dg p 0 : Nat), .int .u64 (dg p 1 : Nat), .int .u64 (dg p 2 : Nat), .int .u64 (dg p 3 : Nat), .int .u64 (dg p 4 : Nat), .int .u64 (dg p 5 : Nat), .int .u64 (dg p 6 : Nat), .int .u64 (dg p 7 : Nat)] 25)
  exact ⟨rfl, b3.trans (q6.mono b3.size)⟩
/-- The statement's walk. -/
theorem back_walk (a b c : Nat) (ha : a < 18446744073709551616) (hb : b < 18446744073709551616) (hc : c < 18446744073709551616) (w : World) :
    Calls Try.prog 6 #[.int .u64 a, .int .u64 b, .int .u64 c] w fun e w' => e = .returned (.bool true) ∧ Below w.heap.size w w' := by
  rcases Nat.eq_zero_or_pos c with rfl | c0
  · exact back_zero a b ha hb w
  · by_cases ho : c * 18446744073709551616 ≤ a * b
    · exact back_over a b c ha hb hc c0 ho w
    · exact back_fits a b c ha hb hc c0 ho w
end Go.Proofs.Ytphjpbfahlhliaa
