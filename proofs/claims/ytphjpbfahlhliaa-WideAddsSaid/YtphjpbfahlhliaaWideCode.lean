/- Package wide: Mul, Less, Plus, Minus, Cmp: for all words and wide numbers. -/
import Derived.Test.YtphjpbfahlhliaaWideRefs
import Derived.Test.YtphjpbfahlhliaaShelf
import Derived.Lib.Hide
import Derived.Laws.Externs
import Derived.Shelf.Spec.BitsCarry
namespace Go.Proofs.Ytphjpbfahlhliaa
open Go.ChangeShapes Go.WideShapes Go.ChangeAt Go.RowKit
theorem add64_run (x y c : Nat) (hc : c ≤ 1) (w : World) :
    (callFunc 23 #[.int .u64 x, .int .u64 y, .int .u64 c]).run Try.prog w =
      .ok (.value (.tuple #[.int .u64 (((x + y + c) % 18446744073709551616 : Nat) : Int), .int .u64 (((x + y + c) / 18446744073709551616 : Nat) : Int)])) w := by
  rw [run_callFunc_extern Try.func23 (by kernel_rfl) (by kernel_rfl) (by kernel_rfl) (e := add64Entry) (by kernel_rfl), run_add64 x y c (by omega) (by omega) (by omega) (by omega)]
  simp only [Result.andThen]
  congr 5 <;> omega
theorem add64_run0 (x y : Nat) (w : World) :
    (callFunc 23 #[.int .u64 x, .int .u64 y, .int .u64 0]).run Try.prog w =
      .ok (.value (.tuple #[.int .u64 (((x + y) % 18446744073709551616 : Nat) : Int), .int .u64 (((x + y) / 18446744073709551616 : Nat) : Int)])) w := add64_run x y 0 (by omega) w
theorem sub64_run (x y b : Nat) (hb : b ≤ 1) (w : World) :
    (callFunc 24 #[.int .u64 x, .int .u64 y, .int .u64 b]).run Try.prog w =
      .ok (.value (.tuple #[.int .u64 (((x + 18446744073709551616 - y - b) % 18446744073709551616 : Nat) : Int), .int .u64 ((if x < y + b then 1 else 0 : Nat) : Int)])) w := by
  rw [run_callFunc_extern Try.func24 (by kernel_rfl) (by kernel_rfl) (by kernel_rfl) (e := sub64Entry) (by kernel_rfl), run_sub64 x y b hb]
  rfl
theorem sub64_run0 (x y : Nat) (w : World) :
    (callFunc 24 #[.int .u64 x, .int .u64 y, .int .u64 0]).run Try.prog w =
      .ok (.value (.tuple #[.int .u64 (((x + 18446744073709551616 - y) % 18446744073709551616 : Nat) : Int), .int .u64 ((if x < y then 1 else 0 : Nat) : Int)])) w := sub64_run x y 0 (by omega) w
/-- A wide number, as a value. -/
def wv (N : Nat) : Value := .agg #[.int .u64 (N / 18446744073709551616 : Nat), .int .u64 (N % 18446744073709551616 : Nat)]
theorem wv_of (h l : Nat) (hl : l < 18446744073709551616) : wv (h * 18446744073709551616 + l) = .agg #[.int .u64 (h : Nat), .int .u64 (l : Nat)] := by
  unfold wv
  rw [show (h * 18446744073709551616 + l) / 18446744073709551616 = h from by omega, show (h * 18446744073709551616 + l) % 18446744073709551616 = l from by omega]
theorem wv_is {h l N : Nat} (hl : l < 18446744073709551616) (e : h * 18446744073709551616 + l = N) : wv N = .agg #[.int .u64 (h : Nat), .int .u64 (l : Nat)] := by rw [← e]; exact wv_of h l hl
theorem words_of (N : Nat) (hN : N < 340282366920938463463374607431768211456) : ∃ h l : Nat, (h : Int) < 18446744073709551616 ∧ (l : Int) < 18446744073709551616 ∧ N = h * 18446744073709551616 + l ∧ wv N = .agg #[.int .u64 (h : Nat), .int .u64 (l : Nat)] :=
  ⟨N / 18446744073709551616, N % 18446744073709551616, by omega, by omega, by omega, rfl⟩

set_option maxHeartbeats 400000 in
theorem wmul_any (a b : Nat) (ha : a < 18446744073709551616) (hb : b < 18446744073709551616) (w : World) :
    Calls Try.prog 10 #[.int .u64 a, .int .u64 b] w (Ret (wv (a * b)) w) := by
  have h := fun (w : World) => Try.bits_Mul64 a b ha hb w
  unfold wv
  generalize a * b / 18446744073709551616 = x at h ⊢
  generalize a * b % 18446744073709551616 = y at h ⊢
  have H := Lib.hid h
  clear h
  go_enter Try.func10, Try.ntmps10
  go_wp2_with fail
  refine (H.out _).mono ?_
  rintro e w1 ⟨rfl, rfl⟩
  go_wp2
  go_returns
  exact ⟨rfl, by go_grown⟩

def plusV (M N : Nat) : Value := if M + N < 340282366920938463463374607431768211456 then .tuple #[wv (M + N), .int .i64 0] else .tuple #[wv 0, .int .i64 2]
set_option maxHeartbeats 400000 in
theorem wplus_any (M N : Nat) (hM : M < 340282366920938463463374607431768211456) (hN : N < 340282366920938463463374607431768211456) (w : World) :
    Calls Try.prog 14 #[wv M, wv N] w (Ret (plusV M N) w) := by
  obtain ⟨a, b, ha, hb, e1, e2⟩ := words_of M hM
  obtain ⟨c, d, hc, hd, e3, e4⟩ := words_of N hN
  rw [e2, e4]
  have h0 := add64_run0 b d
  have h1 := add64_run a c ((b + d) / 18446744073709551616) (by omega)
  obtain ⟨lo, hlo⟩ : ∃ n, n = (b + d) % 18446744073709551616 := ⟨_, rfl⟩
  obtain ⟨cy, hcy⟩ : ∃ n, n = (b + d) / 18446744073709551616 := ⟨_, rfl⟩
  obtain ⟨hi, hhi⟩ : ∃ n, n = (a + c + cy) % 18446744073709551616 := ⟨_, rfl⟩
  obtain ⟨ov, hov⟩ : ∃ n, n = (a + c + cy) / 18446744073709551616 := ⟨_, rfl⟩
  rw [← hlo, ← hcy] at h0
  rw [← hcy, ← hhi, ← hov] at h1
  by_cases hz : ov = 0
  · have HV : Hid (plusV M N = .tuple #[.agg #[.int .u64 (hi : Nat), .int .u64 (lo : Nat)], .int .i64 0]) := by
      show plusV M N = _
      rw [plusV, if_pos (by omega), wv_is (h := hi) (l := lo) (by omega) (by omega)]
    clear hlo hcy hhi hov e1 e2 e3 e4 hM hN
    subst hz
    go_enter Try.func14, Try.ntmps14
    go_wp2
    go_returns
    exact ⟨by rw [HV.out], by go_grown⟩
  · have HV : Hid (plusV M N = .tuple #[.agg #[.int .u64 0, .int .u64 0], .int .i64 2]) := by
      show plusV M N = _
      rw [plusV, if_neg (by omega)]
      rfl
    have b1 : ((ov : Int) != 0) = true := by rw [bne_iff_ne]; omega
    have b2 : ((ov : Int) == 0) = false := by rw [beq_eq_false_iff_ne]; omega
    clear hlo hcy hhi hov e1 e2 e3 e4 hM hN hz
    go_enter Try.func14, Try.ntmps14
    go_wp2
    go_returns
    exact ⟨by rw [HV.out], by go_grown⟩

def minusV (M N : Nat) : Value := if N ≤ M then .tuple #[wv (M - N), .int .i64 0] else .tuple #[wv 0, .int .i64 2]
set_option maxHeartbeats 400000 in
theorem wminus_any (M N : Nat) (hM : M < 340282366920938463463374607431768211456) (hN : N < 340282366920938463463374607431768211456) (w : World) :
    Calls Try.prog 16 #[wv M, wv N] w (Ret (minusV M N) w) := by
  obtain ⟨a, b, ha, hb, e1, e2⟩ := words_of M hM
  obtain ⟨c, d, hc, hd, e3, e4⟩ := words_of N hN
  rw [e2, e4]
  have h0 := sub64_run0 b d
  have h1 := sub64_run a c (if b < d then 1 else 0) (by split <;> omega)
  obtain ⟨lo, hlo⟩ : ∃ n, n = (b + 18446744073709551616 - d) % 18446744073709551616 := ⟨_, rfl⟩
  obtain ⟨cy, hcy⟩ : ∃ n : Nat, n = if b < d then 1 else 0 := ⟨_, rfl⟩
  obtain ⟨hi, hhi⟩ : ∃ n, n = (a + 18446744073709551616 - c - cy) % 18446744073709551616 := ⟨_, rfl⟩
  obtain ⟨ov, hov⟩ : ∃ n : Nat, n = if a < c + cy then 1 else 0 := ⟨_, rfl⟩
  rw [← hlo, ← hcy] at h0
  rw [← hcy, ← hhi, ← hov] at h1
  by_cases hz : ov = 0
  · have HV : Hid (minusV M N = .tuple #[.agg #[.int .u64 (hi : Nat), .int .u64 (lo : Nat)], .int .i64 0]) := by
      show minusV M N = _
      split at hcy <;> split at hov <;> first | omega | rw [minusV, if_pos (by omega), wv_is (h := hi) (l := lo) (by omega) (by omega)]
    clear hlo hcy hhi hov e1 e2 e3 e4 hM hN
    subst hz
    go_enter Try.func16, Try.ntmps16
    go_wp2
    go_returns
    exact ⟨by rw [HV.out], by go_grown⟩
  · have HV : Hid (minusV M N = .tuple #[.agg #[.int .u64 0, .int .u64 0], .int .i64 2]) := by
      show minusV M N = _
      have : M < N := by split at hcy <;> split at hov <;> omega
      rw [minusV, if_neg (by omega)]
      rfl
    have b1 : ((ov : Int) != 0) = true := by rw [bne_iff_ne]; omega
    have b2 : ((ov : Int) == 0) = false := by rw [beq_eq_false_iff_ne]; omega
    clear hlo hcy hhi hov e1 e2 e3 e4 hM hN hz
    go_enter Try.func16, Try.ntmps16
    go_wp2
    go_returns
    exact ⟨by rw [HV.out], by go_grown⟩
theorem ret_int {k : IntKind} {a b : Int} {w w' : World} (h : b = a) (hb : Below w.heap.size w w') : Ret (.int k b) w (.returned (.int k a)) w' := ⟨by rw [h], hb⟩
set_option maxHeartbeats 400000 in
theorem wcmp_any (M N : Nat) (hM : M < 340282366920938463463374607431768211456) (hN : N < 340282366920938463463374607431768211456) (w : World) :
    Calls Try.prog 17 #[wv M, wv N] w (Ret (.int .i64 (cmpN M N)) w) := by
  obtain ⟨a, b, ha, hb, e1, e2⟩ := words_of M hM
  obtain ⟨c, d, hc, hd, e3, e4⟩ := words_of N hN
  rw [e2, e4]
  clear e2 e4
  by_cases h1 : a < c
  · have HC := Lib.hid (cmpN_lt (M := M) (N := N) (by omega))
    have g1 : ((a : Int) == c) = false := by rw [beq_eq_false_iff_ne]; omega
    clear e1 e3 hM hN
    go_enter Try.func17, Try.ntmps17
    go_wp2
    go_returns
    exact ret_int HC.out (by go_grown)
  have d1 : decide ((a : Int) < c) = false := by simp; omega
  by_cases h2 : c < a
  · have HC := Lib.hid (cmpN_gt (M := M) (N := N) (by omega))
    have g1 : ((a : Int) == c) = false := by rw [beq_eq_false_iff_ne]; omega
    clear e1 e3 hM hN
    go_enter Try.func17, Try.ntmps17
    go_wp2
    go_returns
    exact ret_int HC.out (by go_grown)
  obtain rfl : a = c := by omega
  have g1 : ((a : Int) == a) = true := by rw [beq_iff_eq]
  by_cases h3 : b = d
  · have HC := Lib.hid (cmpN_eq (M := M) (N := N) (by omega))
    subst h3
    have g2 : ((b : Int) == b) = true := by rw [beq_iff_eq]
    clear e1 e3 hM hN
    go_enter Try.func17, Try.ntmps17
    go_wp2
    go_returns
    exact ret_int HC.out (by go_grown)
  have g2 : ((b : Int) == d) = false := by rw [beq_eq_false_iff_ne]; omega
  by_cases h4 : b < d
  · have HC := Lib.hid (cmpN_lt (M := M) (N := N) (by omega))
    have d2 : decide ((b : Int) < d) = true := by simp; omega
    clear e1 e3 hM hN
    go_enter Try.func17, Try.ntmps17
    go_wp2
    go_returns
    exact ret_int HC.out (by go_grown)
  · have HC := Lib.hid (cmpN_gt (M := M) (N := N) (by omega))
    have d2 : decide ((b : Int) < d) = false := by simp; omega
    clear e1 e3 hM hN
    go_enter Try.func17, Try.ntmps17
    go_wp2
    go_returns
    exact ret_int HC.out (by go_grown)

theorem mul_lt {a b : Nat} (ha : a < 18446744073709551616) (hb : b < 18446744073709551616) : a * b < 340282366920938463463374607431768211456 := by
  have := Nat.mul_lt_mul'' ha hb
  simpa using this
set_option maxHeartbeats 400000 in
theorem less_any (a b c d : Nat) (ha : a < 18446744073709551616) (hb : b < 18446744073709551616) (hc : c < 18446744073709551616) (hd : d < 18446744073709551616) (w : World) :
    Calls Try.prog 11 #[.int .u64 a, .int .u64 b, .int .u64 c, .int .u64 d] w (Ret (.int .i64 (cmpN (a * b) (c * d))) w) := by
  have H1 := Lib.hid (fun (w : World) => wmul_any a b ha hb w)
  have H2 := Lib.hid (fun (w : World) => wmul_any c d hc hd w)
  have H3 := Lib.hid (fun (w : World) => wcmp_any (a * b) (c * d) (mul_lt ha hb) (mul_lt hc hd) w)
  clear ha hb hc hd
  go_enter Try.func11, Try.ntmps11
  go_wp2_with fail
  refine (H1.out _).mono ?_
  rintro e w1 ⟨rfl, h1⟩
  go_wp2_with fail
  refine (H2.out _).mono ?_
  rintro e w2 ⟨rfl, h2⟩
  go_wp2_with fail
  refine (H3.out _).mono ?_
  rintro e w3 ⟨rfl, h3⟩
  go_wp2_with fail
  go_returns
  exact ⟨rfl, h1.trans ((h2.mono h1.size).trans (h3.mono (Nat.le_trans h1.size h2.size)))⟩

end Go.Proofs.Ytphjpbfahlhliaa
