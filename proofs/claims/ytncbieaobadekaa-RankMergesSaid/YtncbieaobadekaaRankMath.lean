/- How keys compare: over lists of numbers. -/
import Derived.Test.YtncbieaobadekaaRows
namespace Go.Proofs.Ytncbieaobadekaa
/-- Two keys: the first number that parts them; else the shorter one is less. -/
def cmpL : List Int → List Int → Int
  | [], [] => 0
  | [], _ :: _ => -1
  | _ :: _, [] => 1
  | a :: l, b :: m => if a < b then -1 else if b < a then 1 else cmpL l m
theorem cmpL_three : ∀ l m, cmpL l m = -1 ∨ cmpL l m = 0 ∨ cmpL l m = 1
  | [], [] => Or.inr (Or.inl rfl)
  | [], _ :: _ => Or.inl rfl
  | _ :: _, [] => Or.inr (Or.inr rfl)
  | a :: l, b :: m => by
    rw [cmpL]
    split
    · exact Or.inl rfl
    · split
      · exact Or.inr (Or.inr rfl)
      · exact cmpL_three l m
theorem cmpL_swap : ∀ l m, cmpL m l = - cmpL l m
  | [], [] => rfl
  | [], _ :: _ => rfl
  | _ :: _, [] => rfl
  | a :: l, b :: m => by
    rw [cmpL, cmpL, cmpL_swap l m]
    by_cases h1 : a < b
    · rw [if_pos h1, if_neg (by omega), if_pos h1]; rfl
    · by_cases h2 : b < a
      · rw [if_pos h2, if_neg h1, if_pos h2]
      · rw [if_neg h2, if_neg h1, if_neg h1, if_neg h2]
theorem cmpL_self (l : List Int) : cmpL l l = 0 := by
  have := cmpL_swap l l
  omega
theorem cmpL_eq : ∀ l m, cmpL l m = 0 → l = m
  | [], [], _ => rfl
  | [], _ :: _, h => by cases h
  | _ :: _, [], h => by cases h
  | a :: l, b :: m, h => by
    rw [cmpL] at h
    by_cases h1 : a < b
    · rw [if_pos h1] at h; omega
    · by_cases h2 : b < a
      · rw [if_neg h1, if_pos h2] at h; omega
      · rw [if_neg h1, if_neg h2] at h
        rw [cmpL_eq l m h, show a = b by omega]
/-- What is not above what is not above is not above. -/
theorem cmpL_trans : ∀ l m k, cmpL l m ≤ 0 → cmpL m k ≤ 0 → cmpL l k ≤ 0
  | [], _, [], _, _ => Int.le_refl _
  | [], _, _ :: _, _, _ => by rw [cmpL]; decide
  | _ :: _, [], _, h, _ => by rw [cmpL] at h; exact absurd h (by decide)
  | _ :: _, _ :: _, [], _, h => by rw [cmpL] at h; exact absurd h (by decide)
  | a :: l, b :: m, c :: k, h1, h2 => by
    rw [cmpL] at h1 h2 ⊢
    by_cases x1 : a < b
    · by_cases y1 : b < c
      · rw [if_pos (by omega)]; decide
      · by_cases y2 : c < b
        · rw [if_neg y1, if_pos y2] at h2; omega
        · rw [if_pos (by omega)]; decide
    · by_cases x2 : b < a
      · rw [if_neg x1, if_pos x2] at h1; omega
      · rw [if_neg x1, if_neg x2] at h1
        by_cases y1 : b < c
        · rw [if_pos (by omega)]; decide
        · by_cases y2 : c < b
          · rw [if_neg y1, if_pos y2] at h2; omega
          · rw [if_neg y1, if_neg y2] at h2
            rw [if_neg (by omega), if_neg (by omega)]
            exact cmpL_trans l m k h1 h2
/-- d numbers of a function, from k on. -/
def toL (z : Nat → Int) : Nat → Nat → List Int
  | 0, _ => []
  | d + 1, k => z k :: toL z d (k + 1)
/-- As the loops go: place by place. -/
def cmpF (z y : Nat → Int) (m : Nat) : Nat → Nat → Int
  | 0, k => if k < m then -1 else 0
  | d + 1, k => if m ≤ k then 1 else if z k < y k then -1 else if y k < z k then 1 else cmpF z y m d (k + 1)
theorem cmpF_list (z y : Nat → Int) (m : Nat) : ∀ d k, cmpF z y m d k = cmpL (toL z d k) (toL y (m - k) k)
  | 0, k => by
    rw [cmpF, toL]
    by_cases h : k < m
    · rw [if_pos h, show m - k = (m - k - 1) + 1 by omega, toL, cmpL]
    · rw [if_neg h, show m - k = 0 by omega, toL, cmpL]
  | d + 1, k => by
    rw [cmpF, toL]
    by_cases h : m ≤ k
    · rw [if_pos h, show m - k = 0 by omega, toL, cmpL]
    · rw [if_neg h, show m - k = (m - (k + 1)) + 1 by omega, toL, cmpL, cmpF_list z y m d (k + 1)]
def cmpZ (z : Nat → Int) (n : Nat) (y : Nat → Int) (m : Nat) : Int := cmpF z y m n 0
theorem cmpZ_list (z : Nat → Int) (n : Nat) (y : Nat → Int) (m : Nat) : cmpZ z n y m = cmpL (toL z n 0) (toL y m 0) := by
  unfold cmpZ
  rw [cmpF_list, Nat.sub_zero]
theorem cmpF_over (z y : Nat → Int) (m n k : Nat) (h : k < n) (hm : m ≤ k) : cmpF z y m (n - k) k = 1 := by
  rw [show n - k = (n - (k + 1)) + 1 by omega, cmpF, if_pos hm]
theorem cmpF_less (z y : Nat → Int) (m n k : Nat) (h : k < n) (hm : k < m) (hz : z k < y k) : cmpF z y m (n - k) k = -1 := by
  rw [show n - k = (n - (k + 1)) + 1 by omega, cmpF, if_neg (by omega), if_pos hz]
theorem cmpF_more (z y : Nat → Int) (m n k : Nat) (h : k < n) (hm : k < m) (hz : y k < z k) : cmpF z y m (n - k) k = 1 := by
  rw [show n - k = (n - (k + 1)) + 1 by omega, cmpF, if_neg (by omega), if_neg (by omega), if_pos hz]
theorem cmpF_like (z y : Nat → Int) (m n k : Nat) (h : k < n) (hm : k < m) (hz : z k = y k) : cmpF z y m (n - k) k = cmpF z y m (n - (k + 1)) (k + 1) := by
  rw [show n - k = (n - (k + 1)) + 1 by omega, cmpF, if_neg (by omega), if_neg (by omega), if_neg (by omega)]
theorem cmpF_end (z y : Nat → Int) (m n : Nat) : cmpF z y m (n - n) n = if n < m then -1 else 0 := by
  rw [Nat.sub_self, cmpF]
end Go.Proofs.Ytncbieaobadekaa
