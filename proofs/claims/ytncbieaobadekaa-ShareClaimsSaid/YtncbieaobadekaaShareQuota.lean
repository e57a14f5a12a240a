/- Package share: Quota, and the document's. -/
import Derived.Test.YtncbieaobadekaaSWideTop
import Derived.Test.YtncbieaobadekaaSWideDiv
namespace Go.Proofs.Ytncbieaobadekaa
open Go.ChangeShapes Go.WideShapes Go.ChangeAt Go.RowKit
theorem quota_le {a b c : Nat} (hb : b ≤ c) (c0 : 0 < c) : a * b / c ≤ a := by
  have : a * b / c ≤ a * c / c := Nat.div_le_div_right (Nat.mul_le_mul_left _ hb)
  rwa [Nat.mul_div_cancel _ c0] at this
theorem divV_in {N c : Nat} (c0 : 0 < c) (h : N / c < 18446744073709551616) : divV N c = .tuple #[.int .u64 (N / c : Nat), .int .u64 (N % c : Nat), .int .i64 0] := by
  have : ¬ 18446744073709551616 * c ≤ N := fun hh => by
    have := (Nat.le_div_iff_mul_le c0).2 hh
    omega
  unfold divV
  rw [if_neg (by omega), if_neg (by omega)]
theorem quota_ok (a b c : Nat) (ha : a ≤ 9223372036854775807) (hc : c ≤ 9223372036854775807) (hb : b ≤ c) (c0 : 0 < c) (w : World) :
    Calls Try.prog 75 #[.int .i64 a, .int .i64 b, .int .i64 c] w (Ret (.tuple #[.int .i64 (a * b / c : Nat), .int .i64 (a * b % c : Nat), .int .i64 0]) w) := by
  have HM := Lib.hid (fun (w : World) => muldiv_any a b c (by omega) (by omega) (by omega) w)
  have h1 := quota_le (a := a) hb c0
  have h2 := Nat.mod_lt (a * b) c0
  rw [divV_in c0 (by omega)] at HM
  obtain ⟨q, hq⟩ : ∃ q, q = a * b / c := ⟨_, rfl⟩
  obtain ⟨r, hr⟩ : ∃ r, r = a * b % c := ⟨_, rfl⟩
  rw [← hq, ← hr] at HM ⊢
  rw [← hq] at h1
  rw [← hr] at h2
  have q1 : (q : Int) ≤ 9223372036854775807 := by omega
  have r1 : (r : Int) ≤ 9223372036854775807 := by omega
  have a1 : (a : Int) ≤ 9223372036854775807 := by omega
  have b1 : (b : Int) ≤ 9223372036854775807 := by omega
  have c1 : (c : Int) ≤ 9223372036854775807 := by omega
  have g1 : decide ((a : Int) < 0) = false := by simp
  have g2 : decide ((b : Int) < 0) = false := by simp
  have g3 : decide ((c : Int) < (b : Int)) = false := by simp; omega
  have g4 : ((c : Int) == 0) = false := by rw [beq_eq_false_iff_ne]; omega
  have g5 : decide (c < b) = false := by simp; omega
  clear hq hr h1 h2 ha hc hb c0
  go_enter Try.func75, Try.ntmps75
  go_wp2_with fail
  refine (HM.out _).mono ?_
  rintro e w1 ⟨rfl, h1⟩
  go_wp2
  go_ret3
  exact ⟨rfl, h1⟩
theorem refquota_any (a b c : Nat) (ha : a ≤ 9223372036854775807) (hc : c ≤ 9223372036854775807) (hb : b ≤ c) (c0 : 0 < c) (w : World) :
    Calls Try.prog 51 #[.int .i64 a, .int .i64 b, .int .i64 c] w (Ret (.tuple #[.int .i64 (a * b / c : Nat), .int .i64 (a * b % c : Nat)]) w) := by
  have HP := Lib.hid (fun (w : World) => mul_any a b (by omega) (by omega) w)
  have HM := Lib.hid (fun (w : World) => div_any (a * b) c (mul_lt (by omega) (by omega)) c0 (by omega) w)
  have h1 := quota_le (a := a) hb c0
  have h2 := Nat.mod_lt (a * b) c0
  rw [divV_in c0 (by omega)] at HM
  obtain ⟨q, hq⟩ : ∃ q, q = a * b / c := ⟨_, rfl⟩
  obtain ⟨r, hr⟩ : ∃ r, r = a * b % c := ⟨_, rfl⟩
  rw [← hq, ← hr] at HM ⊢
  rw [← hq] at h1
  rw [← hr] at h2
  have q1 : (q : Int) ≤ 9223372036854775807 := by omega
  have r1 : (r : Int) ≤ 9223372036854775807 := by omega
  have a1 : (a : Int) ≤ 9223372036854775807 := by omega
  have b1 : (b : Int) ≤ 9223372036854775807 := by omega
  have c1 : (c : Int) ≤ 9223372036854775807 := by omega
  clear hq hr h1 h2 ha hc hb c0
  go_enter Try.func51, Try.ntmps51
  go_wp2_with fail
  refine (HP.out _).mono ?_
  rintro e w1 ⟨rfl, h1⟩
  go_wp2_with fail
  refine (HM.out _).mono ?_
  rintro e w2 ⟨rfl, h2⟩
  go_wp2
  go_ret2
  exact ⟨rfl, h1.trans (h2.mono h1.size)⟩
theorem quota_bad (a b c : Int) (h : a < 0 ∨ b < 0 ∨ c < b ∨ c = 0) (w : World) :
    Calls Try.prog 75 #[.int .i64 a, .int .i64 b, .int .i64 c] w (Ret (.tuple #[.int .i64 0, .int .i64 0, .int .i64 1]) w) := by
  rcases Int.lt_or_le a 0 with h1 | h1
  · have g1 : decide (a < 0) = true := by simp; omega
    clear h
    go_enter Try.func75, Try.ntmps75
    go_wp2
    go_ret3
    exact ⟨rfl, by go_grown⟩
  have g1 : decide (a < 0) = false := by simp; omega
  rcases Int.lt_or_le b 0 with h2 | h2
  · have g2 : decide (b < 0) = true := by simp; omega
    clear h
    go_enter Try.func75, Try.ntmps75
    go_wp2
    go_ret3
    exact ⟨rfl, by go_grown⟩
  have g2 : decide (b < 0) = false := by simp; omega
  rcases Int.lt_or_le c b with h3 | h3
  · have g3 : decide (c < b) = true := by simp; omega
    clear h
    go_enter Try.func75, Try.ntmps75
    go_wp2
    go_ret3
    exact ⟨rfl, by go_grown⟩
  have g3 : decide (c < b) = false := by simp; omega
  have g4 : (c == 0) = true := by rw [beq_iff_eq]; omega
  clear h
  go_enter Try.func75, Try.ntmps75
  go_wp2
  go_ret3
  exact ⟨rfl, by go_grown⟩
end Go.Proofs.Ytncbieaobadekaa
