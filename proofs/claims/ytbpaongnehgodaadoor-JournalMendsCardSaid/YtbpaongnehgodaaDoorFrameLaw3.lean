/- FrameTorn, walked. -/
import Derived.Test.YtbpaongnehgodaaDoorFrameLaw2
namespace Go.Proofs.YtbpaongnehgodaaDoor
open Go.ChangeShapes Go.WideShapes Go.ChangeAt Go.RowKit
/-- The first so many texts. -/
def lst (t : Nat → ByteArray) (n : Nat) : List (List UInt8) := (List.range n).map (fun i => (t i).data.toList)
theorem lst_succ (t : Nat → ByteArray) (n : Nat) : lst t (n + 1) = lst t n ++ [(t n).data.toList] := by
  unfold lst
  rw [List.range_succ, List.map_append]
  rfl
theorem lst_length (t : Nat → ByteArray) (n : Nat) : (lst t n).length = n := by simp [lst]
theorem lst_get (t : Nat → ByteArray) (n i : Nat) (h : i < n) : (lst t n).drop i = (t i).data.toList :: (lst t n).drop (i + 1) := by
  rw [List.drop_eq_getElem_cons (by rw [lst_length]; exact h)]
  simp [lst]
theorem framesL_append (a : List (List UInt8)) (r : List UInt8) : framesL (a ++ [r]) = framesL a ++ frameL r := by
  induction a with
  | nil => simp [framesL]
  | cons x l ih => simp [framesL, ih]
theorem framesL_lst (t : Nat → ByteArray) (n : Nat) : framesL (lst t (n + 1)) = framesL (lst t n) ++ frameL (t n).data.toList := by rw [lst_succ, framesL_append]
theorem framesL_len (t : Nat → ByteArray) : ∀ n, (∀ i, i < n → (t i).size ≤ 1024) → (framesL (lst t n)).length ≤ 1032 * n
  | 0, _ => by simp [lst, framesL]
  | n + 1, h => by
    have h1 := framesL_len t n (fun i hi => h i (by omega))
    have h2 := h n (by omega)
    have h3 := len_eq (t n)
    rw [framesL_lst, List.length_append, frameL_length]
    omega
/-- Where the counting of whole frames stands. -/
structure WhSt (t : Nat → ByteArray) (n K i u : Nat) : Prop where
  le : u ≤ K
  i_le : i ≤ n
  eq : wholeL K (lst t n) = (i + (wholeL (K - u) ((lst t n).drop i)).1, u + (wholeL (K - u) ((lst t n).drop i)).2)
theorem WhSt.start (t : Nat → ByteArray) (n K : Nat) : WhSt t n K 0 0 := ⟨Nat.zero_le _, Nat.zero_le _, by simp⟩
theorem WhSt.next {t : Nat → ByteArray} {n K i u : Nat} (h : WhSt t n K i u) (hi : i < n) (hk : u + 8 + (t i).size ≤ K) : WhSt t n K (i + 1) (u + 8 + (t i).size) := by
  have hl := len_eq (t i)
  refine ⟨hk, hi, ?_⟩
  rw [h.eq, lst_get t n i hi]
  have e : K - u - (8 + (t i).data.toList.length) = K - (u + 8 + (t i).size) := by omega
  simp only [wholeL]
  rw [if_pos (by omega), e]
  refine Prod.ext ?_ ?_
  · show i + (_ + 1) = i + 1 + _
    omega
  · show u + (_ + (8 + (t i).data.toList.length)) = u + 8 + (t i).size + _
    omega
theorem WhSt.stop {t : Nat → ByteArray} {n K i u : Nat} (h : WhSt t n K i u) (hk : ¬ (i < n ∧ u + 8 + (t i).size ≤ K)) : wholeL K (lst t n) = (i, u) := by
  rw [h.eq]
  by_cases hi : i < n
  · rw [lst_get t n i hi]
    have hl := len_eq (t i)
    simp only [wholeL]
    rw [if_neg (by omega)]
    rfl
  · have : i = n := by have := h.i_le; omega
    rw [List.drop_of_length_le (by rw [lst_length]; omega)]
    rfl
theorem StrsAt.mono {w : World} {ao : Option Addr} {n k : Nat} {f g : Nat → Value} (h : StrsAt w ao n f) (hk : k ≤ n) (e : ∀ i, i < k → f i = g i) : StrsAt w ao k g := fun h0 => by
  obtain ⟨b, off, e1, hlt, hc⟩ := h (by omega)
  exact ⟨b, off, e1, hlt, fun i hi => by rw [hc i (by omega), e i hi]⟩
end Go.Proofs.YtbpaongnehgodaaDoor
