/- Two lists of keys put together: the places, step by step. -/
import Derived.Test.YtncbieaobadekaaRankOrders
namespace Go.Proofs.Ytncbieaobadekaa
/-- The keys of one list, and those of another behind them. -/
def joinK (n : Nat) (A B : Nat → Key) (i : Nat) : Key := if i < n then A i else B (i - n)
theorem joinK_a {n : Nat} {A B : Nat → Key} {i : Nat} (h : i < n) : joinK n A B i = A i := if_pos h
theorem joinK_b {n : Nat} {A B : Nat → Key} (i : Nat) : joinK n A B (n + i) = B i := by
  unfold joinK
  rw [if_neg (by omega), Nat.add_sub_cancel_left]
theorem cmpK_le_trans {a b c : Key} (h1 : cmpK a b ≤ 0) (h2 : cmpK b c ≤ 0) : cmpK a c ≤ 0 := cmpL_trans _ _ _ h1 h2
theorem rises_le {K : Nat → Key} {n : Nat} (h : risesN K false n = true) {i : Nat} : ∀ {j : Nat}, i ≤ j → j < n → cmpK (K i) (K j) ≤ 0
  | 0, hij, _ => by
    obtain rfl : i = 0 := by omega
    unfold cmpK; rw [cmpL_self]; exact Int.le_refl _
  | j + 1, hij, hj => by
    by_cases e : i = j + 1
    · subst e; unfold cmpK; rw [cmpL_self]; exact Int.le_refl _
    · have h1 := rises_le h (i := i) (j := j) (by omega) (by omega)
      have h2 := risesN_at h j hj
      unfold stepOk at h2
      simp at h2
      exact cmpK_le_trans h1 h2
/-- What has been put out when i of the one and k of the other list are done. -/
structure Merging (n m : Nat) (A B : Nat → Key) (i k : Nat) (L : List Nat) : Prop where
  hi : i ≤ n
  hk : k ≤ m
  perm : L.Perm (List.range i ++ (List.range k).map (n + ·))
  sorted : L.Pairwise fun x y => ordLt (joinK n A B) y x = false
  rest : ∀ x ∈ L, ∀ y, (i ≤ y ∧ y < n) ∨ (n + k ≤ y ∧ y < n + m) → ordLt (joinK n A B) y x = false
theorem Merging.start (n m : Nat) (A B : Nat → Key) : Merging n m A B 0 0 [] := ⟨Nat.zero_le _, Nat.zero_le _, by simp, List.Pairwise.nil, fun _ hx => by cases hx⟩
theorem Merging.len {n m : Nat} {A B : Nat → Key} {i k : Nat} {L : List Nat} (h : Merging n m A B i k L) : L.length = i + k := by
  rw [h.perm.length_eq]; simp
theorem not_ordLt {K : Nat → Key} {x y : Nat} (h : cmpK (K x) (K y) < 0 ∨ (cmpK (K x) (K y) = 0 ∧ x ≤ y)) : ordLt K y x = false := by
  cases hh : ordLt K y x
  · rfl
  · have h2 := (ordLt_iff K y x).1 hh
    have : cmpK (K y) (K x) = - cmpK (K x) (K y) := cmpL_swap _ _
    omega
theorem Merging.snoc {n m : Nat} {A B : Nat → Key} {i k : Nat} {L : List Nat} (h : Merging n m A B i k L) (x : Nat) (hx : (i ≤ x ∧ x < n) ∨ (n + k ≤ x ∧ x < n + m)) : (L ++ [x]).Pairwise fun x y => ordLt (joinK n A B) y x = false := by
  rw [List.pairwise_append]
  refine ⟨h.sorted, List.pairwise_singleton _ _, fun a ha b hb => ?_⟩
  obtain rfl : b = x := by simpa using hb
  exact h.rest a ha b hx
/-- One of the first list: it is not above what is left of the second. -/
theorem Merging.left {n m : Nat} {A B : Nat → Key} {i k : Nat} {L : List Nat} (h : Merging n m A B i k L) (ha : risesN A false n = true) (hb : risesN B false m = true) (hin : i < n) (hc : k < m → cmpK (A i) (B k) ≤ 0) : Merging n m A B (i + 1) k (L ++ [i]) := by
  refine ⟨hin, h.hk, ?_, h.snoc i (Or.inl ⟨Nat.le_refl _, hin⟩), fun x hx y hy => ?_⟩
  · rw [List.range_succ, List.append_assoc]
    refine (h.perm.append_right [i]).trans ?_
    rw [List.append_assoc]
    exact List.Perm.append_left _ List.perm_append_comm
  · rw [List.mem_append] at hx
    rcases hx with hx | hx
    · exact h.rest x hx y (by omega)
    · obtain rfl : x = i := by simpa using hx
      apply not_ordLt
      rcases hy with ⟨h1, h2⟩ | ⟨h1, h2⟩
      · rw [joinK_a hin, joinK_a h2]
        have := rises_le ha (i := x) (j := y) (by omega) h2
        omega
      · obtain ⟨t, rfl⟩ : ∃ t, y = n + t := ⟨y - n, by omega⟩
        rw [joinK_a hin, joinK_b]
        have h3 := rises_le hb (i := k) (j := t) (by omega) (by omega)
        have h4 := cmpK_le_trans (hc (by omega)) h3
        omega
/-- One of the second list: it is below what is left of the first. -/
theorem Merging.right {n m : Nat} {A B : Nat → Key} {i k : Nat} {L : List Nat} (h : Merging n m A B i k L) (ha : risesN A false n = true) (hb : risesN B false m = true) (hkm : k < m) (hc : i < n → 0 < cmpK (A i) (B k)) : Merging n m A B i (k + 1) (L ++ [n + k]) := by
  refine ⟨h.hi, hkm, ?_, h.snoc (n + k) (Or.inr ⟨Nat.le_refl _, by omega⟩), fun x hx y hy => ?_⟩
  · rw [List.range_succ, List.map_append, ← List.append_assoc]
    exact h.perm.append_right _
  · rw [List.mem_append] at hx
    rcases hx with hx | hx
    · exact h.rest x hx y (by omega)
    · obtain rfl : x = n + k := by simpa using hx
      apply not_ordLt
      rcases hy with ⟨h1, h2⟩ | ⟨h1, h2⟩
      · rw [joinK_b, joinK_a h2]
        have h3 := rises_le ha (i := i) (j := y) h1 h2
        have h4 := hc (by omega)
        have h5 : cmpK (B k) (A i) = - cmpK (A i) (B k) := cmpL_swap _ _
        exact Or.inl (cmpK_lt_trans (by omega) h3 (Or.inl (by omega)))
      · obtain ⟨t, rfl⟩ : ∃ t, y = n + t := ⟨y - n, by omega⟩
        rw [joinK_b, joinK_b]
        have := rises_le hb (i := k) (j := t) (by omega) (by omega)
        omega
theorem range_join (n m : Nat) : List.range n ++ (List.range m).map (n + ·) = List.range (n + m) := by
  rw [List.range_add]
theorem Merging.ends {n m : Nat} {A B : Nat → Key} {L : List Nat} (h : Merging n m A B n m L) : OrdF (ordLt (joinK n A B)) (n + m) (fun t => L[t]?.getD 0) := by
  have hp := h.perm
  rw [range_join] at hp
  exact ordF_of_list (ordLt_n _ _) hp fun i j hij hj => List.pairwise_iff_getElem.1 h.sorted i j (Nat.lt_trans hij hj) hj hij
/-- Where runs of like keys begin. -/
def runsL (K : Nat → Key) : Nat → List Nat
  | 0 => []
  | 1 => [0]
  | i + 2 => if cmpK (K i) (K (i + 1)) = 0 then runsL K (i + 1) else runsL K (i + 1) ++ [i + 1]
theorem runsL_len (K : Nat → Key) : ∀ n, (runsL K n).length ≤ n
  | 0 => Nat.le_refl _
  | 1 => Nat.le_refl _
  | i + 2 => by
    have := runsL_len K (i + 1)
    rw [runsL]
    split
    · omega
    · rw [List.length_append]; simp; omega
end Go.Proofs.Ytncbieaobadekaa
