/- complineref01.Sum: the sum of any amounts, in halves. -/
import Derived.Test.YtncbieaobadekaaSMoneyRefs
namespace Go.Proofs.Ytncbieaobadekaa
open Go.ChangeShapes Go.WideShapes Go.ChangeAt Go.RowKit
/-- The sum of the first k. -/
def sumTo (z : Nat → Int) : Nat → Int
  | 0 => 0
  | k + 1 => sumTo z k + z k
/-- How far the sum is. -/
structure SSt (z : Nat → Int) (k : Nat) (h l : Int) : Prop where
  eq : h * 4294967296 + l = sumTo z k
  h0 : -2147483648 * (k : Int) ≤ h
  h1 : h ≤ 2147483648 * (k : Int)
  l0 : 0 ≤ l
  l1 : l ≤ 4294967296 * (k : Int)
theorem SSt.next {z : Nat → Int} {k : Nat} {h l : Int} (s : SSt z k h l) (hz : -9223372036854775808 ≤ z k ∧ z k ≤ 9223372036854775807) : SSt z (k + 1) (h + z k / 4294967296) (l + z k % 4294967296) := by
  obtain ⟨a, b, c, d, e⟩ := s
  refine ⟨?_, ?_, ?_, ?_, ?_⟩
  · rw [sumTo]; omega
  all_goals omega
set_option maxHeartbeats 1000000 in
theorem refsum_any (z : Nat → Int) (n cap b off : Nat) (hn : n ≤ 1000000) (hz : ∀ i, i < n → -9223372036854775808 ≤ z i ∧ z i ≤ 9223372036854775807) (w : World)
    (hc : ∀ i, i < n → w.cell? ⟨b, off + i, none⟩ = some (.int .i64 (z i))) :
    Calls Try.prog 19 #[.slice (some ⟨b, off, none⟩) n cap] w (RetS (amt (sumTo z n)) w) := by
  have HC := Lib.hid hc
  have HZ := Lib.hid hz
  have hn2 : (n : Int) ≤ 1000000 := by omega
  clear hc hz hn
  go_enter Try.func19, Try.ntmps19
  go_wp2_with fail
  go_loop [4, 5, 6] (fun hv lv iv => ∃ (k : Nat) (h l : Int), k ≤ n ∧ hv = .int .i64 h ∧ lv = .int .i64 l ∧ iv = .int .i64 (k : Nat) ∧ SSt z k h l) (fun _ _ iv => n - (intOf iv).toNat)
  case atStart => exact ⟨0, 0, 0, Nat.zero_le _, rfl, rfl, rfl, ⟨by simp [sumTo], by simp, by simp, by simp, by simp⟩⟩
  case round =>
    obtain ⟨k, h, l, hk, rfl, rfl, rfl, hS⟩ := hrel
    have hk2 : (k : Int) ≤ n := by omega
    have b1 : -2147483648000000 ≤ h := by have := hS.h0; omega
    have b2 : h ≤ 2147483648000000 := by have := hS.h1; omega
    have b3 : 0 ≤ l := hS.l0
    have b4 : l ≤ 4294967296000000 := by have := hS.l1; omega
    have HS := Lib.hid hS
    clear hS
    by_cases hlt : k < n
    · have hcell := HC.out k hlt
      have hzk := HZ.out k hlt
      have HN := Lib.hid (HS.out.next hzk)
      obtain ⟨x, hx⟩ : ∃ x, z k = x := ⟨_, rfl⟩
      rw [hx] at hcell hzk HN
      by_cases hm : x = -9223372036854775808
      · have hm1 : (x != -9223372036854775808) = false := by rw [hm]; rfl
        have HM := Lib.hid hm
        clear hm hzk hx
        go_wp2_with fail
        go_round
        case rel => exact ⟨k + 1, h + -2147483648, l, by omega, rfl, rfl, by go_num, by have h1 := HN.out; rw [HM.out] at h1; simpa using h1⟩
        case measure => simp [intOf]; omega
      · have hm1 : (x != -9223372036854775808) = true := by rw [bne_iff_ne]; exact hm
        have HH := Lib.hid (fun (w : World) => halves_any x hzk w)
        have c1 : -2147483648 ≤ x / 4294967296 := by omega
        have c2 : x / 4294967296 ≤ 2147483647 := by omega
        have c3 : 0 ≤ x % 4294967296 := by omega
        have c4 : x % 4294967296 < 4294967296 := by omega
        generalize x / 4294967296 = p at *
        generalize x % 4294967296 = q at *
        clear hm hzk hx
        go_wp2_with fail
        refine (HH.out _).mono ?_
        rintro e w1 ⟨rfl, rfl⟩
        go_wp2_with fail
        go_round
        case rel => exact ⟨k + 1, h + p, l + q, by omega, rfl, rfl, by go_num, HN.out⟩
        case measure => simp [intOf]; omega
    · obtain rfl : k = n := by omega
      have HH := Lib.hid (fun (w : World) => whole_any h l (by omega) (by omega) w)
      rw [HS.out.eq] at HH
      by_cases hr : -9223372036854775808 ≤ sumTo z k ∧ sumTo z k ≤ 9223372036854775807
      · have HV := Lib.hid (amt_in hr)
        rw [wholeV, if_pos hr] at HH
        generalize sumTo z k = s at *
        clear hr
        go_wp2_with fail
        refine (HH.out _).mono ?_
        rintro e w1 ⟨rfl, rfl⟩
        go_wp2_with fail
        go_ret2
        exact ⟨by rw [HV.out]; rfl, rfl⟩
      · have HV := Lib.hid (amt_out hr)
        rw [wholeV, if_neg hr] at HH
        clear hr
        go_wp2_with fail
        refine (HH.out _).mono ?_
        rintro e w1 ⟨rfl, rfl⟩
        go_wp2_with fail
        go_ret2
        exact ⟨by rw [HV.out]; rfl, rfl⟩
end Go.Proofs.Ytncbieaobadekaa
