/- Frames: the mathematics. -/
import Derived.Test.YtbpaongnehgodaaDoorSumOf
namespace Go.Proofs.YtbpaongnehgodaaDoor
open Go.ChangeShapes Go.WideShapes Go.ChangeAt Go.RowKit
/-- A number in four bytes, the highest first. -/
def be4 (n : Nat) : List UInt8 := [UInt8.ofNat (n / 16777216), UInt8.ofNat (n / 65536), UInt8.ofNat (n / 256), UInt8.ofNat n]
theorem be4_length (n : Nat) : (be4 n).length = 4 := rfl
/-- The byte at a place, or 0. -/
def byteAt (L : List UInt8) (i : Nat) : Nat := (L.getD i 0).toNat
theorem byteAt_lt (L : List UInt8) (i : Nat) : byteAt L i < 256 := (L.getD i 0).toNat_lt
/-- What the first bytes come to. -/
def leastN (L : List UInt8) : Nat → Nat
  | 0 => 0
  | i + 1 => leastN L i * 256 + byteAt L i
theorem leastN_lt (L : List UInt8) : ∀ i, leastN L i < 256 ^ i
  | 0 => by show 0 < 256 ^ 0; decide
  | i + 1 => by
    have h1 := leastN_lt L i
    have h2 := byteAt_lt L i
    have h3 : (leastN L i + 1) * 256 ≤ 256 ^ i * 256 := Nat.mul_le_mul_right _ h1
    simp only [leastN, Nat.pow_succ]
    omega
/-- The least number whose bytes begin so. -/
def least (L : List UInt8) : Nat := leastN L 4
theorem least_lt (L : List UInt8) : least L < 4294967296 := leastN_lt L 4
theorem leastN_congr {L M : List UInt8} : ∀ i, (∀ j, j < i → byteAt L j = byteAt M j) → leastN L i = leastN M i
  | 0, _ => rfl
  | i + 1, h => by simp only [leastN, leastN_congr i (fun j hj => h j (by omega)), h i (by omega)]
theorem least_be4 (n : Nat) (hn : n < 4294967296) (R : List UInt8) : least (be4 n ++ R) = n := by
  have e : ∀ k : Nat, (UInt8.ofNat k).toNat = k % 256 := fun k => by simp
  simp only [least, leastN, byteAt, be4, List.cons_append, List.nil_append, List.getD_cons_zero, List.getD_cons_succ, e]
  omega
/-- A record's frame. -/
def frameL (r : List UInt8) : List UInt8 := be4 r.length ++ be4 (sumN 0 r) ++ r
theorem frameL_length (r : List UInt8) : (frameL r).length = 8 + r.length := by
  unfold frameL
  simp only [List.length_append, be4_length]
/-- What bytes begin with: an error, or a record of so many bytes. -/
inductive NextA where
  | err (e : Int)
  | ok (n : Nat)
def nextR (L : List UInt8) : NextA :=
  if 1024 < least L then .err 3 else
  if L.length < 8 + least L then .err 4 else
  if sumN 0 ((L.drop 8).take (least L)) ≠ least (L.drop 4) then .err 5 else .ok (least L)
theorem nextR_frame (r R : List UInt8) (hr : r.length ≤ 1024) : nextR (frameL r ++ R) = .ok r.length := by
  have e1 : frameL r ++ R = be4 r.length ++ (be4 (sumN 0 r) ++ (r ++ R)) := by simp [frameL, List.append_assoc]
  have h1 : least (frameL r ++ R) = r.length := by rw [e1]; exact least_be4 _ (by omega) _
  have h2 : (frameL r ++ R).drop 4 = be4 (sumN 0 r) ++ (r ++ R) := by rw [e1]; rfl
  have h3 : (frameL r ++ R).drop 8 = r ++ R := by rw [e1]; rfl
  unfold nextR
  rw [h1, h2, h3, least_be4 _ (sumN_lt 0 r), if_neg (by omega), if_neg (by rw [List.length_append, frameL_length]; omega)]
  rw [if_neg]
  simp
theorem byteAt_take (L : List UInt8) (k j : Nat) : byteAt (L.take k) j ≤ byteAt L j := by
  unfold byteAt
  simp only [List.getD_eq_getElem?_getD, List.getElem?_take]
  split
  · exact Nat.le_refl _
  · simp
theorem leastN_take (L : List UInt8) (k : Nat) : ∀ i, leastN (L.take k) i ≤ leastN L i
  | 0 => Nat.le_refl _
  | i + 1 => by
    have h1 := leastN_take L k i
    have h2 := byteAt_take L k i
    simp only [leastN]
    omega
theorem nextR_cut (r R : List UInt8) (hr : r.length ≤ 1024) (k : Nat) (hk : k < 8 + r.length) : nextR ((frameL r ++ R).take k) = .err 4 := by
  have e1 : frameL r ++ R = be4 r.length ++ (be4 (sumN 0 r) ++ (r ++ R)) := by simp [frameL, List.append_assoc]
  have h1 : least (frameL r ++ R) = r.length := by rw [e1]; exact least_be4 _ (by omega) _
  have h2 : least ((frameL r ++ R).take k) ≤ r.length := by rw [← h1]; exact leastN_take _ _ _
  have hl : ((frameL r ++ R).take k).length = k := by rw [List.length_take, List.length_append, frameL_length]; omega
  unfold nextR
  rw [if_neg (by omega), if_pos]
  rw [hl]
  by_cases h4 : 4 ≤ k
  · have h3 : least ((frameL r ++ R).take k) = r.length := by
      rw [← h1]
      refine leastN_congr 4 fun j hj => ?_
      unfold byteAt
      simp only [List.getD_eq_getElem?_getD, List.getElem?_take]
      rw [if_pos (by omega)]
    omega
  · omega
/-- The records from the front on, how many bytes they have, and the error. -/
def scanR : Nat → List UInt8 → List (List UInt8) × Nat × Int
  | 0, _ => ([], 0, 0)
  | f + 1, L => if L = [] then ([], 0, 0) else
    match nextR L with
    | .err e => ([], 0, e)
    | .ok n => ((L.drop 8).take n :: (scanR f (L.drop (8 + n))).1, 8 + n + (scanR f (L.drop (8 + n))).2.1, (scanR f (L.drop (8 + n))).2.2)
theorem nextR_ok {L : List UInt8} {n : Nat} (h : nextR L = .ok n) : n = least L ∧ n ≤ 1024 ∧ 8 + n ≤ L.length ∧ sumN 0 ((L.drop 8).take n) = least (L.drop 4) := by
  unfold nextR at h
  split at h
  · cases h
  · split at h
    · cases h
    · split at h
      · cases h
      · rename_i h1 h2 h3
        cases h
        exact ⟨rfl, by omega, by omega, Classical.byContradiction h3⟩
/-- Frames, one behind the other. -/
def framesL : List (List UInt8) → List UInt8
  | [] => []
  | r :: l => frameL r ++ framesL l
/-- How many frames are there whole, and their bytes. -/
def wholeL (k : Nat) : List (List UInt8) → Nat × Nat
  | [] => (0, 0)
  | r :: l => if 8 + r.length ≤ k then ((wholeL (k - (8 + r.length)) l).1 + 1, (wholeL (k - (8 + r.length)) l).2 + (8 + r.length)) else (0, 0)
theorem scan_torn : ∀ (l : List (List UInt8)) (k f : Nat), (∀ r ∈ l, r.length ≤ 1024) → k ≤ (framesL l).length → k ≤ f →
    scanR f ((framesL l).take k) = (l.take (wholeL k l).1, (wholeL k l).2, if (wholeL k l).2 < k then 4 else 0)
  | [], k, f, _, hk, _ => by
    simp only [framesL, List.length_nil] at hk
    obtain rfl : k = 0 := by omega
    cases f <;> simp [scanR, framesL, wholeL]
  | r :: l, k, f, hr, hk, hf => by
    have hr1 := hr r (by simp)
    by_cases h0 : k = 0
    · subst h0
      have hw : wholeL 0 (r :: l) = (0, 0) := by simp only [wholeL]; rw [if_neg (by omega)]
      rw [hw]
      cases f <;> simp [scanR]
    · obtain ⟨f', rfl⟩ : ∃ f', f = f' + 1 := ⟨f - 1, by omega⟩
      have hne : (framesL (r :: l)).take k ≠ [] := by
        intro e
        have := congrArg List.length e
        rw [List.length_take] at this
        simp only [List.length_nil] at this
        omega
      simp only [scanR]
      rw [if_neg hne]
      by_cases hk8 : 8 + r.length ≤ k
      · have e : (framesL (r :: l)).take k = frameL r ++ (framesL l).take (k - (8 + r.length)) := by
          simp only [framesL]
          rw [List.take_append, frameL_length, List.take_of_length_le (by rw [frameL_length]; exact hk8)]
        rw [e, nextR_frame r _ hr1]
        have ed : (frameL r ++ (framesL l).take (k - (8 + r.length))).drop (8 + r.length) = (framesL l).take (k - (8 + r.length)) := by
          rw [List.drop_append_of_le_length (by rw [frameL_length]; exact Nat.le_refl _), List.drop_of_length_le (by rw [frameL_length]; exact Nat.le_refl _)]
          rfl
        have er : ((frameL r ++ (framesL l).take (k - (8 + r.length))).drop 8).take r.length = r := by
          have e3 : (frameL r ++ (framesL l).take (k - (8 + r.length))).drop 8 = r ++ (framesL l).take (k - (8 + r.length)) := by
            simp [frameL, be4]
          rw [e3]
          simp
        have ih := scan_torn l (k - (8 + r.length)) f' (fun x hx => hr x (by simp [hx])) (by
          simp only [framesL, List.length_append, frameL_length] at hk
          omega) (by omega)
        have hw : wholeL k (r :: l) = ((wholeL (k - (8 + r.length)) l).1 + 1, (wholeL (k - (8 + r.length)) l).2 + (8 + r.length)) := by
          simp only [wholeL]
          rw [if_pos hk8]
        simp only []
        rw [ed, er, ih, hw]
        simp only [List.take_succ_cons]
        refine Prod.ext rfl (Prod.ext ?_ ?_)
        · show 8 + r.length + _ = _ + (8 + r.length)
          omega
        · show (if _ then (4 : Int) else 0) = if _ then (4 : Int) else 0
          by_cases hq : (wholeL (k - (8 + r.length)) l).2 < k - (8 + r.length)
          · rw [if_pos hq, if_pos (by omega)]
          · rw [if_neg hq, if_neg (by omega)]
      · have hn : nextR ((framesL (r :: l)).take k) = .err 4 := nextR_cut r (framesL l) hr1 k (by omega)
        have hw : wholeL k (r :: l) = (0, 0) := by
          simp only [wholeL]
          rw [if_neg hk8]
        rw [hn, hw]
        simp [Nat.pos_of_ne_zero h0]
end Go.Proofs.YtbpaongnehgodaaDoor
