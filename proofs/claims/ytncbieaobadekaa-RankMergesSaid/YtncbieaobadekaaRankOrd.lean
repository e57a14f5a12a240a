/- Places in an order, counted: over natural numbers and lists. -/
import Derived.Test.YtncbieaobadekaaRankMath
namespace Go.Proofs.Ytncbieaobadekaa
/-- How many of the first n stand ahead of j. -/
def placeL (lt : Nat → Nat → Bool) (n j : Nat) : Nat := (List.range n).countP fun i => lt i j
theorem placeL_succ (lt : Nat → Nat → Bool) (k j : Nat) : placeL lt (k + 1) j = placeL lt k j + if lt k j then 1 else 0 := by
  unfold placeL
  rw [List.range_succ, List.countP_append, List.countP_singleton]
theorem placeL_le (lt : Nat → Nat → Bool) (n j : Nat) : placeL lt n j ≤ n := by
  have := List.countP_le_length (p := fun i => lt i j) (l := List.range n)
  rw [List.length_range] at this
  exact this
/-- A strict order of the first n. -/
structure LtN (lt : Nat → Nat → Bool) (n : Nat) : Prop where
  irrefl : ∀ x, lt x x = false
  trans : ∀ x y z, lt x y = true → lt y z = true → lt x z = true
  total : ∀ x y, x < n → y < n → x ≠ y → lt x y = true ∨ lt y x = true
theorem LtN.asymm {lt : Nat → Nat → Bool} {n : Nat} (h : LtN lt n) {x y : Nat} (e : lt x y = true) : lt y x = false := by
  cases hc : lt y x
  · rfl
  · have := h.trans x y x e hc
    rw [h.irrefl] at this
    cases this
theorem place_of_sorted {lt : Nat → Nat → Bool} {n : Nat} (h : LtN lt n) {L : List Nat} (hp : L.Perm (List.range n)) (hs : ∀ i j (hij : i < j) (hj : j < L.length), lt L[j] (L[i]'(Nat.lt_trans hij hj)) = false) (p : Nat) (hpl : p < L.length) : placeL lt n L[p] = p := by
  have hnd : L.Nodup := hp.symm.nodup List.nodup_range
  have hmem : ∀ x ∈ L, x < n := fun x hx => List.mem_range.1 (hp.mem_iff.1 hx)
  unfold placeL
  rw [← hp.countP_eq]
  have hsplit : L.take p ++ L[p] :: L.drop (p + 1) = L := by rw [List.getElem_cons_drop, List.take_append_drop]
  have h1 : (L.take p).countP (fun i => lt i L[p]) = (L.take p).length := by
    rw [List.countP_eq_length]
    intro a ha
    obtain ⟨t, ht, rfl⟩ := List.getElem_of_mem ha
    have ht2 : t < p := by rw [List.length_take] at ht; omega
    rw [List.getElem_take]
    have hne : L[t] ≠ L[p] := List.pairwise_iff_getElem.1 hnd t p (by omega) hpl ht2
    rcases h.total _ _ (hmem _ (List.getElem_mem (show t < L.length by omega))) (hmem _ (List.getElem_mem hpl)) hne with e | e
    · exact e
    · rw [hs t p ht2 hpl] at e; cases e
  have h2 : (L.drop (p + 1)).countP (fun i => lt i L[p]) = 0 := by
    rw [List.countP_eq_zero]
    intro a ha
    obtain ⟨t, ht, rfl⟩ := List.getElem_of_mem ha
    have ht2 : p + 1 + t < L.length := by rw [List.length_drop] at ht; omega
    rw [List.getElem_drop]
    have := hs p (p + 1 + t) (by omega) ht2
    rw [this]
    decide
  have hc : L.countP (fun i => lt i L[p]) = (L.take p ++ L[p] :: L.drop (p + 1)).countP (fun i => lt i L[p]) := by rw [hsplit]
  rw [hc, List.countP_append, List.countP_cons, h1, h2, h.irrefl, List.length_take]
  simp
  omega
/-- f tells who stands at each place. -/
structure OrdF (lt : Nat → Nat → Bool) (n : Nat) (f : Nat → Nat) : Prop where
  at_ : ∀ j, j < n → placeL lt n j < n ∧ f (placeL lt n j) = j
  of_ : ∀ t, t < n → f t < n ∧ placeL lt n (f t) = t
theorem ordF_of_list {lt : Nat → Nat → Bool} {n : Nat} (h : LtN lt n) {L : List Nat} (hp : L.Perm (List.range n)) (hs : ∀ i j (hij : i < j) (hj : j < L.length), lt L[j] (L[i]'(Nat.lt_trans hij hj)) = false) : OrdF lt n (fun t => L[t]?.getD 0) := by
  have hlen : L.length = n := by rw [hp.length_eq, List.length_range]
  refine ⟨fun j hj => ?_, fun t ht => ?_⟩
  · have hm : j ∈ L := hp.mem_iff.2 (List.mem_range.2 hj)
    obtain ⟨p, hpl, e⟩ := List.getElem_of_mem hm
    have := place_of_sorted h hp hs p hpl
    rw [e] at this
    rw [this]
    exact ⟨by omega, by simp [hpl, e]⟩
  · have htl : t < L.length := by omega
    have := place_of_sorted h hp hs t htl
    simp only [List.getElem?_eq_getElem htl, Option.getD_some]
    exact ⟨List.mem_range.1 (hp.mem_iff.1 (List.getElem_mem htl)), this⟩
theorem OrdF.same {lt : Nat → Nat → Bool} {n : Nat} {f g : Nat → Nat} (hf : OrdF lt n f) (hg : ∀ j, j < n → g (placeL lt n j) = j) (t : Nat) (ht : t < n) : f t = g t := by
  obtain ⟨h1, h2⟩ := hf.of_ t ht
  have := hg (f t) h1
  rw [h2] at this
  exact this.symm
theorem OrdF.inj {lt : Nat → Nat → Bool} {n : Nat} {f : Nat → Nat} (hf : OrdF lt n f) {i j : Nat} (hi : i < n) (hj : j < n) (e : placeL lt n i = placeL lt n j) : i = j := by
  have h1 := (hf.at_ i hi).2
  have h2 := (hf.at_ j hj).2
  rw [e] at h1
  omega
theorem ordF_exists {lt : Nat → Nat → Bool} {n : Nat} (h : LtN lt n) : ∃ f, OrdF lt n f := by
  have key : ∀ n' (h' : n' ≤ n), ∃ L : List Nat, L.Perm (List.range n') ∧ L.Pairwise fun a b => lt b a = false := by
    intro n'
    induction n' with
    | zero => intro _; exact ⟨[], by simp, List.Pairwise.nil⟩
    | succ k ih =>
      intro hk
      obtain ⟨L, hL, hP⟩ := ih (by omega)
      refine ⟨L.filter (fun x => lt x k) ++ k :: L.filter (fun x => !lt x k), ?_, ?_⟩
      · rw [List.range_succ]
        refine List.Perm.trans List.perm_middle ?_
        refine List.Perm.trans ?_ (List.perm_append_singleton k (List.range k)).symm
        refine List.Perm.cons k ?_
        exact (List.filter_append_perm (fun x => lt x k) L).trans hL
      · have hmem : ∀ x ∈ L, x < k := fun x hx => List.mem_range.1 (hL.mem_iff.1 hx)
        rw [List.pairwise_append]
        refine ⟨hP.filter _, ?_, ?_⟩
        · rw [List.pairwise_cons]
          refine ⟨fun b hb => ?_, hP.filter _⟩
          simpa using (List.mem_filter.1 hb).2
        · intro a ha b hb
          have ha2 : lt a k = true := by simpa using (List.mem_filter.1 ha).2
          rcases List.mem_cons.1 hb with rfl | hb
          · exact h.asymm ha2
          · have hb2 : lt b k = false := by simpa using (List.mem_filter.1 hb).2
            have hbk : b < k := hmem b (List.mem_filter.1 hb).1
            rcases h.total b k (by omega) (by omega) (by omega) with e | e
            · rw [e] at hb2; cases hb2
            · exact h.asymm (h.trans _ _ _ ha2 e)
  obtain ⟨L, hL, hP⟩ := key n (Nat.le_refl _)
  exact ⟨_, ordF_of_list h hL fun i j hij hj => List.pairwise_iff_getElem.1 hP i j (Nat.lt_trans hij hj) hj hij⟩
end Go.Proofs.Ytncbieaobadekaa
