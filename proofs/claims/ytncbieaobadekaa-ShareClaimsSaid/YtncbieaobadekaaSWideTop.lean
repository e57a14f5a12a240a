/- Package wide: Div and MulDiv; and the helpers of the statements. -/
import Derived.Test.YtncbieaobadekaaSWideCode
import Derived.Test.YtncbieaobadekaaSWideRefs2
import Derived.Test.YtncbieaobadekaaSWideMul
import Derived.Test.YtncbieaobadekaaSWideDiv
import Derived.Test.YtncbieaobadekaaSDiv64
namespace Go.Proofs.Ytncbieaobadekaa
open Go.ChangeShapes Go.WideShapes Go.ChangeAt Go.RowKit
theorem div64_any (h l c : Nat) (hc : h < c) (hl : l < 18446744073709551616) (hc1 : c < 18446744073709551616) (w : World) :
    Calls Try.prog 117 #[.int .u64 h, .int .u64 l, .int .u64 c] w (Ret (.tuple #[.int .u64 ((h * 18446744073709551616 + l) / c : Nat), .int .u64 ((h * 18446744073709551616 + l) % c : Nat)]) w) := by
  rcases Nat.eq_zero_or_pos h with rfl | h0
  · rw [Nat.zero_mul, Nat.zero_add]
    exact div64_low l c hc hl hc1 w
  · exact div64_high h l c h0 hc hl hc1 w
set_option maxHeartbeats 400000 in
theorem wdiv_any (N c : Nat) (hN : N < 340282366920938463463374607431768211456) (hc : c < 18446744073709551616) (w : World) :
    Calls Try.prog 108 #[wv N, .int .u64 c] w (Ret (divV N c) w) := by
  obtain ⟨h, l, hh, hl, e1, e2⟩ := words_of N hN
  rw [e2]
  rcases Nat.eq_zero_or_pos c with rfl | c0
  · clear e1 e2 hN hc
    go_enter Try.func108, Try.ntmps108
    go_wp2
    go_ret3
    exact ⟨rfl, by go_grown⟩
  have g1 : ((c : Int) == 0) = false := by rw [beq_eq_false_iff_ne]; omega
  by_cases hch : c ≤ h
  · have HV := Lib.hid (divV_over (N := N) c0 (by omega))
    have g2 : decide (c ≤ h) = true := by simp; omega
    clear e1 e2 hN hc c0
    go_enter Try.func108, Try.ntmps108
    go_wp2
    go_ret3
    exact ⟨by rw [HV.out]; rfl, by go_grown⟩
  · have HD := Lib.hid (fun (w : World) => div64_any h l c (by omega) (by omega) hc w)
    have HV : Hid (divV N c = .tuple #[.int .u64 ((h * 18446744073709551616 + l) / c : Nat), .int .u64 ((h * 18446744073709551616 + l) % c : Nat), .int .i64 0]) := by
      show divV N c = _
      rw [divV, if_neg (by omega), if_neg (by omega), e1]
    have g2 : decide (c ≤ h) = false := by simp; omega
    obtain ⟨q, hq⟩ : ∃ q, q = (h * 18446744073709551616 + l) / c := ⟨_, rfl⟩
    obtain ⟨r, hr⟩ : ∃ r, r = (h * 18446744073709551616 + l) % c := ⟨_, rfl⟩
    rw [← hq, ← hr] at HD HV
    clear e1 e2 hN hc c0 hq hr
    go_enter Try.func108, Try.ntmps108
    go_wp2_with fail
    refine (HD.out _).mono ?_
    rintro e w1 ⟨rfl, h1⟩
    go_wp2
    go_ret3
    exact ⟨by rw [HV.out]; rfl, ((Below.refl _ _).alloc (Nat.le_refl _) _).trans (h1.mono (by simp))⟩
set_option maxHeartbeats 400000 in
theorem muldiv_any (a b c : Nat) (ha : a < 18446744073709551616) (hb : b < 18446744073709551616) (hc : c < 18446744073709551616) (w : World) :
    Calls Try.prog 92 #[.int .u64 a, .int .u64 b, .int .u64 c] w (Ret (divV (a * b) c) w) := by
  have H1 := Lib.hid (fun (w : World) => wmul_any a b ha hb w)
  have H2 := Lib.hid (fun (w : World) => wdiv_any (a * b) c (mul_lt ha hb) hc w)
  have H3 : Hid (∃ q r : Nat, ∃ e : Int, divV (a * b) c = .tuple #[.int .u64 (q : Nat), .int .u64 (r : Nat), .int .i64 e]) := by
    show ∃ q r : Nat, ∃ e : Int, divV (a * b) c = .tuple #[.int .u64 (q : Nat), .int .u64 (r : Nat), .int .i64 e]
    unfold divV
    split
    · exact ⟨0, 0, 1, rfl⟩
    · split
      · exact ⟨0, 0, 2, rfl⟩
      · exact ⟨_, _, 0, rfl⟩
  obtain ⟨q, r, x, h3⟩ := H3.out
  rw [h3] at H2 ⊢
  clear H3 h3 ha hb hc
  go_enter Try.func92, Try.ntmps92
  go_wp2_with fail
  refine (H1.out _).mono ?_
  rintro e w1 ⟨rfl, h1⟩
  go_wp2_with fail
  refine (H2.out _).mono ?_
  rintro e w2 ⟨rfl, h2⟩
  go_wp2
  go_ret3
  exact ⟨rfl, h1.trans (h2.mono h1.size)⟩
end Go.Proofs.Ytncbieaobadekaa
