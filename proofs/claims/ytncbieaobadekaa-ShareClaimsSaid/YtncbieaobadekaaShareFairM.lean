/- Why shares are fair: the mathematics. -/
import Derived.Test.YtncbieaobadekaaShareRef3
namespace Go.Proofs.Ytncbieaobadekaa
open Go.ChangeShapes Go.WideShapes Go.ChangeAt Go.RowKit
/-- A sum where one place has one more. -/
theorem sumTo_one {g g' : Nat → Int} {o : Nat} (h : ∀ i, g' i = if i = o then g i + 1 else g i) : ∀ n, sumTo g' n = sumTo g n + if o < n then 1 else 0
  | 0 => by simp [sumTo]
  | n + 1 => by
    rw [sumTo, sumTo, sumTo_one h n, h n]
    by_cases e : n = o
    · subst e; rw [if_neg (Nat.lt_irrefl _), if_pos rfl, if_pos (Nat.lt_succ_self _)]; omega
    · rw [if_neg e]
      by_cases l : o < n
      · rw [if_pos l, if_pos (by omega)]; omega
      · rw [if_neg l, if_neg (by omega)]; omega
theorem upN_sum {n : Nat} {K : Int → Int → Prop} {f' : Nat → Int} (hd : ∀ i j, i < j → j < n → f' i ≠ f' j) (he : Same 0 n (fun i => (i : Int)) f') : ∀ k, k ≤ n → sumTo (upN f' k) n = (k : Int)
  | 0, _ => by
    have : ∀ m, sumTo (upN f' 0) m = 0 := fun m => by
      induction m with
      | zero => rfl
      | succ m ih => rw [sumTo, ih]; rfl
    exact this n
  | k + 1, hk => by
    obtain ⟨o, _, ho, heo⟩ := he.from_ k (Nat.zero_le _) (by omega)
    have hz : upN f' k o = 0 := upN_zero f' o k fun i hi e => hd i k hi (by omega) (by rw [e]; exact heo.symm)
    have ih := upN_sum (K := K) hd he k (by omega)
    have h : ∀ i, upN f' (k + 1) i = if i = o then upN f' k i + 1 else upN f' k i := fun i => by
      rw [upN, heo]
      by_cases e : i = o
      · rw [e, if_pos rfl, if_pos rfl, hz]; rfl
      · rw [if_neg (show ¬ ((o : Int) = (i : Int)) from fun h => e (by omega)), if_neg e]
    rw [sumTo_one h n, ih, if_pos ho]
    omega
/-- Of two places the one that has one more and the other: it comes first. -/
theorem up_first {r : Nat → Nat} {f' : Nat → Int} {n k i j : Nat} (hs : SortedOn (ltK (restK (fun i => (r i : Nat)))) f' 0 n) (he : Same 0 n (fun i => (i : Int)) f') (hj : j < n) (hi : upN f' k i = 1) (hu : upN f' k j = 0) : r j < r i ∨ (r j = r i ∧ i < j) := by
  obtain ⟨t, ht, het⟩ : ∃ t, t < k ∧ f' t = (i : Int) := Classical.byContradiction fun hn => by
    have := upN_zero f' i k fun t ht e => hn ⟨t, ht, e⟩
    omega
  obtain ⟨u, _, hu1, heu⟩ := he.to_ j (Nat.zero_le _) hj
  have hku : k ≤ u := Nat.le_of_not_lt fun l => by have := upN_one l heu; omega
  have hlt := hs t u (Nat.zero_le _) (by omega) hu1
  rw [het, heu] at hlt
  unfold ltK restK at hlt
  simp only [Int.toNat_natCast] at hlt
  omega
theorem sN_bound {r : Nat → Nat} {u : Nat → Int} {c : Nat} : ∀ n, (∀ i, i < n → (r i : Int) ≤ u i * (c - 1)) → (sN r n : Int) ≤ sumTo u n * (c - 1)
  | 0, _ => by simp [sN, sumTo]
  | n + 1, h => by
    have := sN_bound (r := r) (u := u) (c := c) n fun i hi => h i (by omega)
    have h2 := h n (by omega)
    rw [sN, sumTo, Int.add_mul]
    push_cast
    omega
/-- Where a part has one more, something is left. -/
theorem up_rest {r : Nat → Nat} {f' : Nat → Int} {n k i c : Nat} (hs : SortedOn (ltK (restK (fun i => (r i : Nat)))) f' 0 n) (he : Same 0 n (fun i => (i : Int)) f') (hk : k ≤ n) (hi : upN f' k i = 1) (hr : ∀ j, r j < c) (hsum : sN r n = k * c) : 0 < r i := by
  refine Nat.pos_of_ne_zero fun hz => ?_
  have hb := sN_bound (r := r) (u := upN f' k) (c := c) n fun j hj => by
    have hrj := hr j
    rcases (show upN f' k j = 0 ∨ upN f' k j = 1 by have := upN_bound f' j k; omega) with h | h
    · have := up_first hs he hj hi h
      rw [h]; omega
    · rw [h]; omega
  rw [upN_sum (K := restK (fun i => (r i : Nat))) (fun a b hab hb => lt_distinct hs hab hb) he k hk, hsum] at hb
  have k0 : 0 < k := Nat.pos_of_ne_zero fun h => by rw [h] at hi; simp [upN] at hi
  rw [Int.mul_sub] at hb
  push_cast at hb
  omega
/-- What is fair of parts P of a by weights y. -/
structure FairP (a n : Nat) (y : Nat → Nat) (P : Nat → Int) : Prop where
  all : sumTo P n = (a : Int)
  nat : ∀ i, i < n → 0 ≤ P i
  most : ∀ i, i < n → P i ≤ a
  part : ∀ i, i < n → 0 < sN y n → P i = ((a * y i / sN y n : Nat) : Int) ∨ (P i = ((a * y i / sN y n + 1 : Nat) : Int) ∧ 0 < a * y i % sN y n)
  more : ∀ i k, i < n → k < n → y i < y k → P i ≤ P k
  same : ∀ i k, i < n → k < i → y k = y i → P i ≤ P k
theorem sumTo_both {P Q : Nat → Int} : ∀ n, sumTo (fun i => P i + Q i) n = sumTo P n + sumTo Q n
  | 0 => rfl
  | n + 1 => by rw [sumTo, sumTo, sumTo, sumTo_both n]; omega
theorem sumTo_nats {y : Nat → Nat} : ∀ n, sumTo (fun i => (y i : Nat)) n = (sN y n : Nat)
  | 0 => rfl
  | n + 1 => by rw [sumTo, sumTo_nats n, sN]; omega
theorem sumTo_nil {P : Nat → Int} : ∀ n, (∀ i, i < n → P i = 0) → sumTo P n = 0
  | 0, _ => rfl
  | n + 1, h => by rw [sumTo, sumTo_nil n (fun i hi => h i (by omega)), h n (by omega)]; rfl
theorem fair_nil (n : Nat) (y : Nat → Nat) : FairP 0 n y (fun _ => 0) :=
  ⟨sumTo_nil n fun _ _ => rfl, fun _ _ => Int.le_refl _, fun _ _ => Int.le_refl _, fun i _ _ => Or.inl (by simp), fun _ _ _ _ _ => Int.le_refl _, fun _ _ _ _ _ => Int.le_refl _⟩
theorem fair_port (a n : Nat) (y : Nat → Nat) (f' : Nat → Int) (a0 : 0 < a) (c0 : 0 < sN y n) (hf : FirstP a n y f') : FairP a n y (portP a n y f') := by
  obtain ⟨hs, he⟩ := hf
  have hle := sN_left a n y c0 n (Nat.le_refl _)
  have hfew := sN_few a n y c0
  have hp := sN_parts a (sN y n) y n
  generalize hK : a - sN (qN a (sN y n) y) n = K at hfew
  have hsum : sN (rN a (sN y n) y) n = K * sN y n := by
    rw [← hK, Nat.sub_mul, Nat.mul_comm (sN (qN a (sN y n) y) n)]
    omega
  have hK0 : K ≤ n := by omega
  have hup : ∀ i, upN f' K i = 0 ∨ upN f' K i = 1 := fun i => by have := upN_bound f' i K; omega
  have hP : ∀ i, portP a n y f' i = ((a * y i / sN y n : Nat) : Int) + upN f' K i := fun i => by unfold portP; rw [hK]; rfl
  have hrest : ∀ i, upN f' K i = 1 → 0 < a * y i % sN y n := fun i hi => up_rest (r := rN a (sN y n) y) hs he hK0 hi (fun j => Nat.mod_lt _ c0) hsum
  have hmost : ∀ i, i < n → a * y i / sN y n ≤ a := fun i hi => Nat.div_le_of_le_mul (by rw [Nat.mul_comm (sN y n)]; exact Nat.mul_le_mul_left a (sN_one y hi))
  have hdm : ∀ i, sN y n * (a * y i / sN y n) + a * y i % sN y n = a * y i := fun i => Nat.div_add_mod _ _
  have hord : ∀ i k, k < n → upN f' K i = 1 → upN f' K k = 0 → a * y k % sN y n < a * y i % sN y n ∨ (a * y k % sN y n = a * y i % sN y n ∧ i < k) := fun i k hk hi hu => up_first (r := rN a (sN y n) y) hs he hk hi hu
  refine ⟨?_, ?_, ?_, ?_, ?_, ?_⟩
  · have : sumTo (portP a n y f') n = sumTo (fun i => ((qN a (sN y n) y i : Nat) : Int) + upN f' K i) n := by
      congr 1; funext i; rw [hP]; rfl
    rw [this, sumTo_both, sumTo_nats, upN_sum (K := restK (fun i => (rN a (sN y n) y i : Nat))) (fun a b hab hb => lt_distinct hs hab hb) he K hK0]
    omega
  · intro i _; rw [hP]; generalize a * y i / sN y n = g; rcases hup i with h | h <;> omega
  · intro i hi
    rw [hP]
    have h1 := hmost i hi
    rcases hup i with h | h
    · rw [h]; omega
    · rw [h]
      have h2 := hrest i h
      have h3 := hdm i
      have h4 : a * y i ≤ a * sN y n := Nat.mul_le_mul_left a (sN_one y hi)
      have h5 : a * y i / sN y n ≠ a := fun e => by
        rw [e, Nat.mul_comm] at h3; omega
      omega
  · intro i _ _
    rw [hP]
    rcases hup i with h | h
    · left; rw [h]; omega
    · right; exact ⟨by rw [h]; omega, hrest i h⟩
  · intro i k _ hk hy
    rw [hP, hP]
    have hq : a * y i / sN y n ≤ a * y k / sN y n := Nat.div_le_div_right (Nat.mul_le_mul_left a (by omega))
    rcases hup i with h | h <;> rcases hup k with h' | h' <;> rw [h, h'] <;> try omega
    rcases Nat.lt_or_ge (a * y i / sN y n) (a * y k / sN y n) with l | l
    · omega
    · have e : a * y i / sN y n = a * y k / sN y n := by omega
      have := hord i k hk h h'
      have h1 := hdm i
      have h2 := hdm k
      have h3 : a * y i < a * y k := Nat.mul_lt_mul_of_pos_left hy a0
      rw [e] at h1
      omega
  · intro i k hi hk hy
    rw [hP, hP, hy]
    rcases hup i with h | h <;> rcases hup k with h' | h' <;> rw [h, h'] <;> try omega
    have := hord i k (by omega) h h'
    rw [hy] at this
    omega
end Go.Proofs.Ytncbieaobadekaa
