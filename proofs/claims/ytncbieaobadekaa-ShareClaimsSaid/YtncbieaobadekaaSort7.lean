/- symMerge of Go's package slices, in general: what the turn leaves. -/
import Derived.Test.YtncbieaobadekaaSort6
namespace Go.Proofs.Ytncbieaobadekaa
open Go.ChangeShapes Go.WideShapes Go.ChangeAt Go.RowKit
theorem rot_a (f : Nat → Int) {s m e i : Nat} (h : i < s) : rotF f s m e i = f i := by
  unfold rotF
  rw [if_neg (by omega), if_neg (by omega)]
theorem rot_b (f : Nat → Int) {s m e i : Nat} (h1 : s ≤ i) (h2 : i < s + (e - m)) : rotF f s m e i = f (i + (m - s)) := by
  unfold rotF
  rw [if_pos ⟨h1, h2⟩]
theorem rot_c (f : Nat → Int) {s m e i : Nat} (h1 : s + (e - m) ≤ i) (h2 : i < e) : rotF f s m e i = f (i - (e - m)) := by
  unfold rotF
  rw [if_neg (by omega), if_pos ⟨h1, h2⟩]
theorem rot_d (f : Nat → Int) {s m e i : Nat} (hs : s ≤ m) (hm : m ≤ e) (h : e ≤ i) : rotF f s m e i = f i := by
  unfold rotF
  rw [if_neg (by omega), if_neg (by omega)]
theorem rot_none (f : Nat → Int) {s m e : Nat} (hs : s ≤ m) (hm : m ≤ e) (h : s = m ∨ m = e) : rotF f s m e = f := by
  funext i
  unfold rotF
  repeat' split
  all_goals first | rfl | (exfalso; omega) | (congr 1; omega)
theorem rot_same (f : Nat → Int) {a s m e b : Nat} (ha : a ≤ s) (hs : s ≤ m) (hm : m ≤ e) (hb : e ≤ b) : Same a b f (rotF f s m e) := by
  refine ⟨fun i hi => ?_, fun i h1 h2 => ?_, fun j h1 h2 => ?_⟩
  · unfold rotF
    rw [if_neg (by omega), if_neg (by omega)]
  · unfold rotF
    split
    · exact ⟨i + (m - s), by omega, by omega, rfl⟩
    · split
      · exact ⟨i - (e - m), by omega, by omega, rfl⟩
      · exact ⟨i, h1, h2, rfl⟩
  · by_cases c1 : j < s
    · exact ⟨j, h1, h2, rot_a f c1⟩
    · by_cases c2 : j < m
      · exact ⟨j + (e - m), by omega, by omega, by rw [rot_c f (by omega) (by omega)]; congr 1; omega⟩
      · by_cases c3 : j < e
        · exact ⟨j - (m - s), by omega, by omega, by rw [rot_b f (by omega) (by omega)]; congr 1; omega⟩
        · exact ⟨j, h1, h2, rot_d f hs hm (by omega)⟩
/-- What the turn leaves: four sorted stretches, and all of the first two below all of the last two. -/
structure Halves (L : Int → Int → Prop) (h : Nat → Int) (a s mid e b : Nat) : Prop where
  s1 : SortedOn L h a s
  s2 : SortedOn L h s mid
  s3 : SortedOn L h mid e
  s4 : SortedOn L h e b
  x : ∀ i j, a ≤ i → i < mid → mid ≤ j → j < b → L (h i) (h j)
theorem halves_of {L : Int → Int → Prop} (f : Nat → Int) {a s m e b mid : Nat} (ha : a ≤ s) (hs : s ≤ m) (hm : m ≤ e) (hb : e ≤ b) (hmid : mid = s + (e - m)) (h1 : SortedOn L f a m) (h2 : SortedOn L f m b)
    (A : ∀ x t, a ≤ x → x < s → e ≤ t → t < b → L (f x) (f t)) (B : ∀ t x, m ≤ t → t < e → s ≤ x → x < m → L (f t) (f x)) : Halves L (rotF f s m e) a s mid e b := by
  subst hmid
  refine ⟨fun i j i1 i2 i3 => ?_, fun i j i1 i2 i3 => ?_, fun i j i1 i2 i3 => ?_, fun i j i1 i2 i3 => ?_, fun i j i1 i2 i3 i4 => ?_⟩
  · rw [rot_a f (by omega), rot_a f (by omega)]
    exact h1 i j i1 i2 (by omega)
  · rw [rot_b f (by omega) (by omega), rot_b f (by omega) (by omega)]
    exact h2 _ _ (by omega) (by omega) (by omega)
  · rw [rot_c f (by omega) (by omega), rot_c f (by omega) (by omega)]
    exact h1 _ _ (by omega) (by omega) (by omega)
  · rw [rot_d f hs hm (by omega), rot_d f hs hm (by omega)]
    exact h2 _ _ (by omega) (by omega) (by omega)
  · by_cases c1 : i < s
    · rw [rot_a f c1]
      by_cases c2 : j < e
      · rw [rot_c f (by omega) (by omega)]
        exact h1 _ _ (by omega) (by omega) (by omega)
      · rw [rot_d f hs hm (by omega)]
        exact A _ _ (by omega) (by omega) (by omega) (by omega)
    · rw [rot_b f (by omega) (by omega)]
      by_cases c2 : j < e
      · rw [rot_c f (by omega) (by omega)]
        exact B _ _ (by omega) (by omega) (by omega) (by omega)
      · rw [rot_d f hs hm (by omega)]
        exact h2 _ _ (by omega) (by omega) (by omega)
/-- What the search for the turn's start knows in the end gives what the turn asks. -/
theorem search_gives {L : Int → Int → Prop} (tr : ∀ {x y z : Int}, L x y → L y z → L x z) (f : Nat → Int) {a m b mid s lo hi : Nat} (hmid : mid = (a + b) / 2) (ham : a < m) (hmb : m < b)
    (hlo : (mid < m ∧ lo = mid + m - b ∧ hi = mid) ∨ (m ≤ mid ∧ lo = a ∧ hi = m)) (h3 : lo ≤ s) (h4 : s ≤ hi)
    (h1 : SortedOn L f a m) (h2 : SortedOn L f m b)
    (P : ∀ c, lo ≤ c → c < s → L (f c) (f (mid + m - 1 - c))) (Q : ∀ c, s ≤ c → c < hi → L (f (mid + m - 1 - c)) (f c)) :
    a ≤ s ∧ s ≤ m ∧ s ≤ mid ∧ m ≤ mid + m - s ∧ mid + m - s ≤ b ∧
      (∀ x t, a ≤ x → x < s → mid + m - s ≤ t → t < b → L (f x) (f t)) ∧ (∀ t x, m ≤ t → t < mid + m - s → s ≤ x → x < m → L (f t) (f x)) := by
  refine ⟨by omega, by omega, by omega, by omega, by omega, fun x t x1 x2 t1 t2 => ?_, fun t x t1 t2 x1 x2 => ?_⟩
  · have h := P (s - 1) (by omega) (by omega)
    rw [show mid + m - 1 - (s - 1) = mid + m - s from by omega] at h
    have hx : x = s - 1 ∨ L (f x) (f (s - 1)) := by
      by_cases c : x = s - 1
      · exact Or.inl c
      · exact Or.inr (h1 x (s - 1) x1 (by omega) (by omega))
    have ht : t = mid + m - s ∨ L (f (mid + m - s)) (f t) := by
      by_cases c : t = mid + m - s
      · exact Or.inl c
      · exact Or.inr (h2 _ t (by omega) (by omega) t2)
    have h5 : L (f x) (f (mid + m - s)) := by
      rcases hx with rfl | hx
      · exact h
      · exact tr hx h
    rcases ht with rfl | ht
    · exact h5
    · exact tr h5 ht
  · have h := Q s (Nat.le_refl _) (by omega)
    have hx : x = s ∨ L (f s) (f x) := by
      by_cases c : x = s
      · exact Or.inl c
      · exact Or.inr (h1 s x (by omega) (by omega) (by omega))
    have ht : t = mid + m - 1 - s ∨ L (f t) (f (mid + m - 1 - s)) := by
      by_cases c : t = mid + m - 1 - s
      · exact Or.inl c
      · exact Or.inr (h2 t _ t1 (by omega) (by omega))
    have h5 : L (f t) (f s) := by
      rcases ht with rfl | ht
      · exact h
      · exact tr ht h
    rcases hx with rfl | hx
    · exact h5
    · exact tr h5 hx
/-- Both halves sorted, and the lower one below the upper one: the whole is sorted. -/
theorem halves_done {L : Int → Int → Prop} (h g1 g2 : Nat → Int) {a mid b : Nat} (x : ∀ i j, a ≤ i → i < mid → mid ≤ j → j < b → L (h i) (h j))
    (e1 : Same a mid h g1) (o1 : SortedOn L g1 a mid) (e2 : Same mid b g1 g2) (o2 : SortedOn L g2 mid b) : SortedOn L g2 a b := by
  intro i j i1 i2 i3
  by_cases c1 : j < mid
  · rw [e2.out i (by omega), e2.out j (by omega)]
    exact o1 i j i1 i2 c1
  · by_cases c2 : mid ≤ i
    · exact o2 i j c2 i2 i3
    · rw [e2.out i (by omega)]
      obtain ⟨p, p1, p2, ep⟩ := e1.from_ i i1 (by omega)
      obtain ⟨q, q1, q2, eq⟩ := e2.from_ j (by omega) i3
      rw [ep, eq, e1.out q (by omega)]
      exact x p q p1 p2 q1 q2
theorem sorted_out {L : Int → Int → Prop} {a mid x y : Nat} {h f1 : Nat → Int} (e : Same a mid h f1) (hx : mid ≤ x) (hs : SortedOn L h x y) : SortedOn L f1 x y := fun i j i1 i2 i3 => by
  rw [e.out i (by omega), e.out j (by omega)]
  exact hs i j i1 i2 i3
end Go.Proofs.Ytncbieaobadekaa
