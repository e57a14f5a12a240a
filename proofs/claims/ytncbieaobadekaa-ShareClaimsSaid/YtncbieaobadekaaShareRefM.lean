/- Who is next to have one more: the greatest remainder that is left, the first of like ones. -/
import Derived.Test.YtncbieaobadekaaShareApp
namespace Go.Proofs.Ytncbieaobadekaa
/-- The remainders, when j have been taken. -/
def leftR (r : Nat → Nat) (f' : Nat → Int) (j : Nat) (i : Nat) : Int := if upN f' j i = 1 then -1 else (r i : Nat)
theorem upN_one {f : Nat → Int} {i : Nat} : ∀ {k t : Nat}, t < k → f t = (i : Int) → upN f k i = 1
  | 0, _, h, _ => absurd h (Nat.not_lt_zero _)
  | k + 1, t, h, e => by
    rw [upN]
    by_cases hk : f k = (i : Int)
    · rw [if_pos hk]
    · rw [if_neg hk]
      have : t ≠ k := fun h => hk (by rw [← h]; exact e)
      exact upN_one (by omega) e
theorem leftR_zero (r : Nat → Nat) (f' : Nat → Int) (i : Nat) : leftR r f' 0 i = (r i : Nat) := by
  unfold leftR
  rw [upN, if_neg (by decide)]
theorem leftR_next (r : Nat → Nat) (f' : Nat → Int) (j o i : Nat) (ho : f' j = (o : Int)) : leftR r f' (j + 1) i = if i = o then -1 else leftR r f' j i := by
  unfold leftR
  rw [upN, ho]
  by_cases h : i = o
  · subst h
    rw [if_pos rfl, if_pos rfl, if_pos rfl]
  · rw [if_neg (show ¬ (o : Int) = (i : Int) by omega), if_neg h]
/-- The one that the loop finds. -/
structure Best (R : Nat → Int) (k b : Nat) : Prop where
  most : ∀ i, i < k → R i ≤ R b
  first : ∀ i, i < b → R i < R b
theorem Best.next_yes {R : Nat → Int} {k b : Nat} (h : Best R k b) (hk : R b < R k) : Best R (k + 1) k :=
  ⟨fun i hi => by
    by_cases e : i = k
    · rw [e]; exact Int.le_refl _
    · have := h.most i (by omega); omega, fun i hi => by have := h.most i hi; omega⟩
theorem Best.next_no {R : Nat → Int} {k b : Nat} (h : Best R k b) (hk : ¬ R b < R k) : Best R (k + 1) b :=
  ⟨fun i hi => by
    by_cases e : i = k
    · rw [e]; omega
    · exact h.most i (by omega), h.first⟩
theorem Best.is {r : Nat → Nat} {f' : Nat → Int} {n j b : Nat} (hs : SortedOn (ltK (restK (fun i => (r i : Nat)))) f' 0 n) (he : Same 0 n (fun i => (i : Int)) f') (hj : j < n) (hb : b < n) (h : Best (leftR r f' j) n b) : f' j = (b : Int) := by
  obtain ⟨o, _, ho, heo⟩ := he.from_ j (Nat.zero_le _) hj
  have hz : upN f' j o = 0 := upN_zero f' o j fun i hi e => lt_distinct hs hi hj (by rw [e]; exact heo.symm)
  have hRo : leftR r f' j o = (r o : Nat) := by unfold leftR; rw [hz, if_neg (by decide)]
  obtain ⟨t, _, ht, het⟩ := he.to_ b (Nat.zero_le _) hb
  rcases Nat.lt_trichotomy t j with h1 | h1 | h1
  · have hRb : leftR r f' j b = -1 := by unfold leftR; rw [upN_one h1 het, if_pos rfl]
    have := h.most o ho
    rw [hRo, hRb] at this
    omega
  · rw [← h1]; exact het
  · have hzb : upN f' j b = 0 := upN_zero f' b j fun i hi e => lt_distinct hs (show i < t by omega) ht (by rw [e]; exact het.symm)
    have hRb : leftR r f' j b = (r b : Nat) := by unfold leftR; rw [hzb, if_neg (by decide)]
    have hlt := hs j t (Nat.zero_le _) h1 ht
    have hm := h.most o ho
    rw [hRo, hRb] at hm
    rw [heo, het] at hlt
    unfold ltK restK at hlt
    simp only [Int.toNat_natCast] at hlt
    have hfo := h.first o
    rw [hRo, hRb] at hfo
    omega
end Go.Proofs.Ytncbieaobadekaa
