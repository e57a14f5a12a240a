/- rotate of Go's package slices: two stretches in each other's places. -/
import Derived.Test.YtncbieaobadekaaSort1
namespace Go.Proofs.Ytncbieaobadekaa
open Go.ChangeShapes Go.WideShapes Go.ChangeAt Go.RowKit
/-- What stands from a to m, and from m to b, in each other's places. -/
def rotF (f : Nat → Int) (a m b : Nat) : Nat → Int := fun i => if a ≤ i ∧ i < a + (b - m) then f (i + (m - a)) else if a + (b - m) ≤ i ∧ i < b then f (i - (b - m)) else f i
theorem rotF_even (f : Nat → Int) (m i : Nat) (h : i ≤ m) : swapF f (m - i) m i = rotF f (m - i) m (m + i) := by
  funext x
  unfold rotF swapF
  repeat' split
  all_goals first | rfl | (exfalso; omega) | (congr 1; omega)
theorem rotF_more (f : Nat → Int) (m i j : Nat) (h : i ≤ m) (hj : j < i) : rotF f (m - i) m (m + j) = rotF (swapF f (m - i) m j) (m - (i - j)) m (m + j) := by
  funext x
  unfold rotF swapF
  repeat' split
  all_goals first | rfl | (exfalso; omega) | (congr 1; omega)
theorem rotF_less (f : Nat → Int) (m i j : Nat) (h : i ≤ m) (hj : i < j) : rotF f (m - i) m (m + j) = rotF (swapF f (m - i) (m + j - i) i) (m - i) m (m + (j - i)) := by
  funext x
  unfold rotF swapF
  repeat' split
  all_goals first | rfl | (exfalso; omega) | (congr 1; omega)
set_option maxHeartbeats 2000000 in
theorem rotate_any (f : Nat → Int) (g n cap a m b : Nat) (fv : Value) (ham : a < m) (hmb : m < b) (hbn : b ≤ n) (hn : n ≤ 1000000) (w : World) (h : RowF w g n f) :
    Calls Try.prog 122 #[.slice (some ⟨g, 0, none⟩) n cap, .int .i64 a, .int .i64 m, .int .i64 b, fv] w (Turned g n (rotF f a m b) w) := by
  have a1 : (a : Int) < m := by omega
  have a2 : (m : Int) < b := by omega
  have a3 : (b : Int) ≤ 1000000 := by omega
  have HR := Lib.hid h
  clear h
  go_enter Try.func122, Try.ntmps122
  go_wp2_with fail
  go_loopw [10, 11] (fun iv jv wr => ∃ (i j : Nat) (fc : Nat → Int), iv = .int .i64 (i : Nat) ∧ jv = .int .i64 (j : Nat) ∧ 0 < i ∧ 0 < j ∧ i ≤ m ∧ m + j ≤ n ∧ rotF f a m b = rotF fc (m - i) m (m + j) ∧ RowF wr g n fc ∧ Gr g w wr) (fun iv jv _ => (intOf iv).toNat + (intOf jv).toNat)
  case atStart => exact ⟨m - a, b - m, f, by go_num, by go_num, by omega, by omega, by omega, by omega, by rw [show m - (m - a) = a from by omega, show m + (b - m) = b from by omega], HR.out, gr_refl _ _⟩
  case round =>
    obtain ⟨i, j, fc, rfl, rfl, hi, hj, him, hjn, hrot, hrow, hgr⟩ := hrel
    have i1 : (0 : Int) < i := by omega
    have j1 : (0 : Int) < j := by omega
    have i2 : (i : Int) ≤ m := by omega
    have j2 : (m : Int) + j ≤ 1000000 := by omega
    have HROT := Lib.hid hrot
    have HW := Lib.hid hrow
    have HG := Lib.hid hgr
    clear hrot hrow hgr
    rcases Nat.lt_trichotomy i j with hlt | heq | hgt
    · have l1 : (i : Int) < j := by omega
      have HS := Lib.hid (fun w h => swapRange_any fc g n cap (m - i) (m + j - i) i fv (by omega) (by omega) hn w h)
      rw [show ((m - i : Nat) : Int) = (m : Int) - i from by omega, show ((m + j - i : Nat) : Int) = (m : Int) + j - i from by omega] at HS
      have HN := Lib.hid (rotF_less fc m i j him hlt)
      have HQ := Lib.hid (And.intro him hjn)
      clear him hjn hi hj hlt
      go_wp2_with fail
      refine (HS.out _ HW.out).mono ?_
      rintro e w1 ⟨rfl, hrow, hgr⟩
      have HW1 := Lib.hid hrow
      have HG1 := Lib.hid (gr_trans HG.out hgr)
      clear hrow hgr
      go_wp2_with fail
      go_roundw
      case rel => exact ⟨i, j - i, _, rfl, by go_num, by omega, by omega, by have := HQ.out; omega, by have := HQ.out; omega, HROT.out.trans HN.out, HW1.out, HG1.out⟩
      case measure => simp [intOf]; omega
    · subst heq
      have HS := Lib.hid (fun w h => swapRange_any fc g n cap (m - i) m i fv (by omega) (by omega) hn w h)
      rw [show ((m - i : Nat) : Int) = (m : Int) - i from by omega] at HS
      have HN := Lib.hid (rotF_even fc m i him)
      have HQ := Lib.hid (And.intro him hjn)
      clear him hjn hi hj
      go_wp2_with fail
      refine (HS.out _ HW.out).mono ?_
      rintro e w1 ⟨rfl, hrow, hgr⟩
      have HW1 := Lib.hid hrow
      have HG1 := Lib.hid (gr_trans HG.out hgr)
      clear hrow hgr
      go_wp2_with fail
      go_end0
      exact ⟨rfl, by rw [HROT.out, ← HN.out]; exact HW1.out, HG1.out⟩
    · have l1 : (j : Int) < i := by omega
      have HS := Lib.hid (fun w h => swapRange_any fc g n cap (m - i) m j fv (by omega) (by omega) hn w h)
      rw [show ((m - i : Nat) : Int) = (m : Int) - i from by omega] at HS
      have HN := Lib.hid (rotF_more fc m i j him hgt)
      have HQ := Lib.hid (And.intro him hjn)
      clear him hjn hi hj hgt
      go_wp2_with fail
      refine (HS.out _ HW.out).mono ?_
      rintro e w1 ⟨rfl, hrow, hgr⟩
      have HW1 := Lib.hid hrow
      have HG1 := Lib.hid (gr_trans HG.out hgr)
      clear hrow hgr
      go_wp2_with fail
      go_roundw
      case rel => exact ⟨i - j, j, _, by go_num, rfl, by omega, by omega, by have := HQ.out; omega, by have := HQ.out; omega, HROT.out.trans HN.out, HW1.out, HG1.out⟩
      case measure => simp [intOf]; omega
end Go.Proofs.Ytncbieaobadekaa
