/- complineref01: halves and whole: for all numbers. -/
import Derived.Test.YtncbieaobadekaaSBase
namespace Go.Proofs.Ytncbieaobadekaa
open Go.ChangeShapes Go.WideShapes Go.ChangeAt Go.RowKit
set_option maxHeartbeats 400000 in
theorem halves_any (a : Int) (ha : -9223372036854775808 ≤ a ∧ a ≤ 9223372036854775807) (w : World) :
    Calls Try.prog 53 #[.int .i64 a] w (RetS (.tuple #[.int .i64 (a / 4294967296), .int .i64 (a % 4294967296)]) w) := by
  obtain ⟨t, ht⟩ : ∃ t, a.tmod 4294967296 = t := ⟨_, rfl⟩
  have h1 : (t = a % 4294967296 ∧ 0 ≤ t) ∨ (t < 0 ∧ t + 4294967296 = a % 4294967296) := by
    rw [← ht, Int.tmod_eq_emod]
    split <;> omega
  have b1 : -4294967296 < t := by
    rw [← ht]
    have := Int.lt_tmod_of_pos a (show (0 : Int) < 4294967296 by omega)
    omega
  have b2 : t < 4294967296 := by
    rw [← ht]
    exact Int.tmod_lt_of_pos a (by omega)
  have b3 : -9223372036854775808 ≤ a - a % 4294967296 ∧ a - a % 4294967296 ≤ 9223372036854775807 := by omega
  have HQ := Lib.hid (show (a - a % 4294967296).tdiv 4294967296 = a / 4294967296 by
    have e : a - a % 4294967296 = 4294967296 * (a / 4294967296) := by omega
    rw [e, Int.mul_tdiv_cancel_left _ (by omega)])
  by_cases h : t < 0
  · have HL := Lib.hid (show t + 4294967296 = a % 4294967296 by omega)
    have HT := Lib.hid ht
    clear ht h1 ha b2
    go_enter Try.func53, Try.ntmps53
    go_upto_region 2 with (fail)
    rw [HT.out]
    go_upto_region 4 with (fail)
    rw [HL.out]
    go_wp2
    go_ret2
    exact ⟨by rw [← HQ.out]; rfl, rfl⟩
  · have HL := Lib.hid (show t = a % 4294967296 by omega)
    have HT := Lib.hid ht
    clear ht h1 ha b1
    go_enter Try.func53, Try.ntmps53
    go_upto_region 2 with (fail)
    rw [HT.out]
    go_upto_region 4 with (fail)
    rw [HL.out]
    go_wp2
    go_ret2
    exact ⟨by rw [← HQ.out]; rfl, rfl⟩
/-- A number put together out of halves, or that it is no amount. -/
def wholeV (n : Int) : Value := if -9223372036854775808 ≤ n ∧ n ≤ 9223372036854775807 then .tuple #[.int .i64 n, .bool true] else .tuple #[.int .i64 0, .bool false]
set_option maxHeartbeats 400000 in
theorem whole_any (h l : Int) (hh : -4611686018427387904 ≤ h ∧ h ≤ 4611686018427387903) (hl : -9223372036854775808 ≤ l ∧ l ≤ 9223372036854775807) (w : World) :
    Calls Try.prog 54 #[.int .i64 h, .int .i64 l] w (RetS (wholeV (h * 4294967296 + l)) w) := by
  have H := Lib.hid (fun (w : World) => halves_any l hl w)
  obtain ⟨c, hc⟩ : ∃ c, l / 4294967296 = c := ⟨_, rfl⟩
  obtain ⟨r, hr⟩ : ∃ r, l % 4294967296 = r := ⟨_, rfl⟩
  have hv : h * 4294967296 + l = (h + c) * 4294967296 + r := by omega
  have r1 : 0 ≤ r := by omega
  have r2 : r < 4294967296 := by omega
  have c1 : -2147483648 ≤ c := by omega
  have c2 : c ≤ 2147483647 := by omega
  have hh1 := hh.1
  have hh2 := hh.2
  rw [hc, hr] at H
  rw [hv]
  clear hc hr hv hl hh
  by_cases g1 : h + c < -2147483648
  · have HV := Lib.hid (show wholeV ((h + c) * 4294967296 + r) = .tuple #[.int .i64 0, .bool false] by rw [wholeV, if_neg (by omega)])
    go_enter Try.func54, Try.ntmps54
    go_wp2_with fail
    refine (H.out _).mono ?_
    rintro e w1 ⟨rfl, rfl⟩
    go_wp2
    go_ret2
    exact ⟨by rw [HV.out]; rfl, rfl⟩
  · by_cases g2 : 2147483647 < h + c
    · have HV := Lib.hid (show wholeV ((h + c) * 4294967296 + r) = .tuple #[.int .i64 0, .bool false] by rw [wholeV, if_neg (by omega)])
      go_enter Try.func54, Try.ntmps54
      go_wp2_with fail
      refine (H.out _).mono ?_
      rintro e w1 ⟨rfl, rfl⟩
      go_wp2
      go_ret2
      exact ⟨by rw [HV.out]; rfl, rfl⟩
    · have HV := Lib.hid (show wholeV ((h + c) * 4294967296 + r) = .tuple #[.int .i64 ((h + c) * 4294967296 + r), .bool true] by rw [wholeV, if_pos (by omega)])
      go_enter Try.func54, Try.ntmps54
      go_wp2_with fail
      refine (H.out _).mono ?_
      rintro e w1 ⟨rfl, rfl⟩
      go_wp2
      go_ret2
      exact ⟨by rw [HV.out]; rfl, rfl⟩
end Go.Proofs.Ytncbieaobadekaa
