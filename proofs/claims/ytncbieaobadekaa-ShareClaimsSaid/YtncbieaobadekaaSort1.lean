/- Rows of numbers that a sort turns: as functions of the place; swapRange and rotate of Go's package slices. -/
import Derived.Test.YtncbieaobadekaaRowz
namespace Go.Proofs.Ytncbieaobadekaa
open Go.ChangeShapes Go.WideShapes Go.ChangeAt Go.RowKit
/-- What a call that turns the row leaves. -/
def Turned (g n : Nat) (f' : Nat → Int) (w : World) (e : Ending) (w' : World) : Prop := e = .returned (.tuple #[]) ∧ RowF w' g n f' ∧ Gr g w w'
/-- k numbers from a on and k from b on, in each other's places. -/
def swapF (f : Nat → Int) (a b k : Nat) : Nat → Int := fun i => if a ≤ i ∧ i < a + k then f (i - a + b) else if b ≤ i ∧ i < b + k then f (i - b + a) else f i
theorem swapF_zero (f : Nat → Int) (a b : Nat) : swapF f a b 0 = f := by
  funext i
  unfold swapF
  rw [if_neg (by omega), if_neg (by omega)]
theorem swapF_next (f : Nat → Int) (a b k : Nat) (h : a + k < b) : put (put (swapF f a b k) (a + k) (f (b + k))) (b + k) (f (a + k)) = swapF f a b (k + 1) := by
  funext i
  unfold put swapF
  repeat' split
  all_goals first | rfl | (exfalso; omega) | (congr 1; omega)
theorem put_comm (f : Nat → Int) (i j : Nat) (x y : Int) (h : i ≠ j) : put (put f i x) j y = put (put f j y) i x := by
  funext k
  unfold put
  by_cases h1 : k = j
  · subst h1
    rw [if_pos rfl, if_neg (fun e => h e.symm), if_pos rfl]
  · rw [if_neg h1]
    by_cases h2 : k = i
    · rw [if_pos h2, if_pos h2]
    · rw [if_neg h2, if_neg h2, if_neg h1]
set_option maxHeartbeats 1000000 in
theorem swapRange_any (f : Nat → Int) (g n cap a b k : Nat) (fv : Value) (hab : a + k ≤ b) (hbn : b + k ≤ n) (hn : n ≤ 1000000) (w : World) (h : RowF w g n f) :
    Calls Try.prog 123 #[.slice (some ⟨g, 0, none⟩) n cap, .int .i64 a, .int .i64 b, .int .i64 k, fv] w (Turned g n (swapF f a b k) w) := by
  have a1 : (a : Int) + k ≤ b := by omega
  have a2 : (b : Int) + k ≤ n := by omega
  have a3 : (n : Int) ≤ 1000000 := by omega
  have HR := Lib.hid h
  clear h hab hbn hn
  go_enter Try.func123, Try.ntmps123
  go_wp2_with fail
  go_loopw [10] (fun iv wr => ∃ i : Nat, iv = .int .i64 (i : Nat) ∧ i ≤ k ∧ RowF wr g n (swapF f a b i) ∧ Gr g w wr) (fun iv _ => k - (intOf iv).toNat)
  case atStart => exact ⟨0, rfl, Nat.zero_le _, by rw [swapF_zero]; exact HR.out, gr_refl _ _⟩
  case round =>
    obtain ⟨i, rfl, hi, hrow, hgr⟩ := hrel
    by_cases hlt : i < k
    · have hlt2 : (i : Int) < k := by omega
      have c1 := hrow.cell (a + i) (by omega)
      have c2 := hrow.cell (b + i) (by omega)
      rw [show swapF f a b i (a + i) = f (a + i) from by unfold swapF; rw [if_neg (by omega), if_neg (by omega)]] at c1
      rw [show swapF f a b i (b + i) = f (b + i) from by unfold swapF; rw [if_neg (by omega), if_neg (by omega)]] at c2
      have e1 := hrow.free (a + i)
      have e2 := hrow.free (b + i)
      have HN := Lib.hid (swapF_next f a b i (by omega))
      have HC := Lib.hid (put_comm (swapF f a b i) (a + i) (b + i) (f (b + i)) (f (a + i)) (by omega))
      have HW := Lib.hid hrow
      have HG := Lib.hid hgr
      generalize f (a + i) = x at *
      generalize f (b + i) = y at *
      clear hrow hgr hi hlt
      go_wp2_with fail
      go_region
      all_goals
        go_wp2
        go_roundw
        case rel =>
          refine ⟨i + 1, by go_num, by omega, ?_, ?_⟩
          · rw [← HN.out]
            first
              | exact (HW.out.store (a + i) y).store (b + i) x
              | (rw [HC.out]; exact (HW.out.store (b + i) x).store (a + i) y)
          · first
              | exact gr_drew (gr_set (gr_set HG.out _ _) _ _)
        case measure => simp [intOf]; omega
    · obtain rfl : i = k := by omega
      have HW := Lib.hid hrow
      have HG := Lib.hid hgr
      clear hrow hgr
      go_wp2_with fail
      go_end0
      exact ⟨rfl, HW.out, HG.out⟩
end Go.Proofs.Ytncbieaobadekaa
