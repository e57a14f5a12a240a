/- Orders; sorted stretches; the insertion sort of Go's package slices, with whatever comparison that only reads. -/
import Derived.Test.YtncbieaobadekaaSort2
import Derived.Deep.QuietTactic
import Derived.BigQuiet
import Derived.Shelf.Abstract
namespace Go.Proofs.Ytncbieaobadekaa
open Go.ChangeShapes Go.WideShapes Go.ChangeAt Go.RowKit
/-- k tells which is ahead; what k leaves open goes by the number. -/
structure SWO (k : Int → Int → Prop) : Prop where
  asymm : ∀ x y, k x y → ¬ k y x
  neg : ∀ x y z, ¬ k x y → ¬ k y z → ¬ k x z
def ltK (k : Int → Int → Prop) (x y : Int) : Prop := k x y ∨ (¬ k y x ∧ x < y)
theorem ltK_trans {k : Int → Int → Prop} (h : SWO k) {x y z : Int} (a : ltK k x y) (b : ltK k y z) : ltK k x z := by
  unfold ltK at *
  have hn1 := h.neg y x z
  have hn2 := h.neg x z y
  have hn3 := h.neg z y x
  have hn4 := h.neg z x y
  have hn5 := h.neg y z x
  have hn6 := h.neg x y z
  have h1 := h.asymm x y
  have h2 := h.asymm y z
  have h3 := h.asymm x z
  by_cases c1 : k x y <;> by_cases c2 : k y z <;> by_cases c3 : k x z <;> by_cases c4 : k y x <;> by_cases c5 : k z y <;> by_cases c6 : k z x <;> simp_all <;> omega
theorem ltK_asymm {k : Int → Int → Prop} (h : SWO k) {x y : Int} (a : ltK k x y) : ¬ ltK k y x := by
  unfold ltK at *
  have h1 := h.asymm x y
  have h2 := h.asymm y x
  by_cases c1 : k x y <;> by_cases c2 : k y x <;> simp_all <;> omega
theorem ltK_total {k : Int → Int → Prop} (h : SWO k) {x y : Int} (a : ¬ ltK k x y) (hne : x ≠ y) : ltK k y x := by
  unfold ltK at *
  have h1 := h.asymm x y
  by_cases c1 : k x y <;> by_cases c2 : k y x <;> simp_all <;> omega
/-- Where x bears the greater number, ahead is what k says. -/
theorem ltK_late {k : Int → Int → Prop} {x y : Int} (h : y < x) : ltK k x y ↔ k x y := by
  unfold ltK
  constructor
  · rintro (h1 | ⟨_, h2⟩)
    · exact h1
    · omega
  · exact Or.inl
def SortedOn (lt : Int → Int → Prop) (f : Nat → Int) (a b : Nat) : Prop := ∀ i j, a ≤ i → i < j → j < b → lt (f i) (f j)
/-- From a to b the same numbers, in some order; elsewhere the very same. -/
structure Same (a b : Nat) (f f' : Nat → Int) : Prop where
  out : ∀ i, ¬ (a ≤ i ∧ i < b) → f' i = f i
  from_ : ∀ i, a ≤ i → i < b → ∃ j, a ≤ j ∧ j < b ∧ f' i = f j
  to_ : ∀ j, a ≤ j → j < b → ∃ i, a ≤ i ∧ i < b ∧ f' i = f j
theorem Same.refl (a b : Nat) (f : Nat → Int) : Same a b f f := ⟨fun _ _ => rfl, fun i h1 h2 => ⟨i, h1, h2, rfl⟩, fun i h1 h2 => ⟨i, h1, h2, rfl⟩⟩
theorem Same.trans {a b : Nat} {f g h : Nat → Int} (x : Same a b f g) (y : Same a b g h) : Same a b f h :=
  ⟨fun i hi => (y.out i hi).trans (x.out i hi),
   fun i h1 h2 => by obtain ⟨j, j1, j2, e⟩ := y.from_ i h1 h2; obtain ⟨l, l1, l2, e2⟩ := x.from_ j j1 j2; exact ⟨l, l1, l2, e.trans e2⟩,
   fun i h1 h2 => by obtain ⟨j, j1, j2, e⟩ := x.to_ i h1 h2; obtain ⟨l, l1, l2, e2⟩ := y.to_ j j1 j2; exact ⟨l, l1, l2, e2.trans e⟩⟩
theorem Same.wide {a b a' b' : Nat} {f g : Nat → Int} (x : Same a b f g) (ha : a' ≤ a) (hb : b ≤ b') : Same a' b' f g := by
  refine ⟨fun i hi => x.out i (by omega), fun i h1 h2 => ?_, fun i h1 h2 => ?_⟩
  · by_cases c : a ≤ i ∧ i < b
    · obtain ⟨j, j1, j2, e⟩ := x.from_ i c.1 c.2
      exact ⟨j, by omega, by omega, e⟩
    · exact ⟨i, h1, h2, x.out i c⟩
  · by_cases c : a ≤ i ∧ i < b
    · obtain ⟨j, j1, j2, e⟩ := x.to_ i c.1 c.2
      exact ⟨j, by omega, by omega, e⟩
    · exact ⟨i, h1, h2, x.out i c⟩
/-- The number at i, brought down to j. -/
def insF (f : Nat → Int) (i j : Nat) : Nat → Int := fun t => if t = j then f i else if j < t ∧ t ≤ i then f (t - 1) else f t
theorem insF_self (f : Nat → Int) (i : Nat) : insF f i i = f := by
  funext t
  unfold insF
  repeat' split
  all_goals first | rfl | (exfalso; omega) | (congr 1; omega)
theorem insF_next (f : Nat → Int) (i j : Nat) (h : j + 1 ≤ i) : put (put (insF f i (j + 1)) (j + 1) (f j)) j (f i) = insF f i j := by
  funext t
  unfold put insF
  repeat' split
  all_goals first | rfl | (exfalso; omega) | (congr 1; omega)
theorem insF_same (f : Nat → Int) (a i j : Nat) (h1 : a ≤ j) (h2 : j ≤ i) : Same a (i + 1) f (insF f i j) := by
  refine ⟨fun t ht => ?_, fun t t1 t2 => ?_, fun t t1 t2 => ?_⟩
  · unfold insF
    rw [if_neg (by omega), if_neg (by omega)]
  · unfold insF
    split
    · exact ⟨i, by omega, by omega, rfl⟩
    · split
      · exact ⟨t - 1, by omega, by omega, rfl⟩
      · exact ⟨t, by omega, by omega, rfl⟩
  · by_cases c : t = i
    · subst c
      exact ⟨j, by omega, by omega, by unfold insF; rw [if_pos rfl]⟩
    · by_cases c2 : j ≤ t
      · exact ⟨t + 1, by omega, by omega, by unfold insF; rw [if_neg (by omega), if_pos (by omega), Nat.add_sub_cancel]⟩
      · exact ⟨t, by omega, by omega, by unfold insF; rw [if_neg (by omega), if_neg (by omega)]⟩
theorem insF_sorted {lt : Int → Int → Prop} (htr : ∀ {x y z : Int}, lt x y → lt y z → lt x z) (f : Nat → Int) (a i j : Nat) (h1 : a ≤ j) (h2 : j ≤ i) (hs : SortedOn lt f a i)
    (hlo : a < j → lt (f (j - 1)) (f i)) (hhi : ∀ t, j ≤ t → t < i → lt (f i) (f t)) : SortedOn lt (insF f i j) a (i + 1) := by
  intro s t s1 s2 s3
  have low : ∀ u, a ≤ u → u < j → lt (f u) (f i) := fun u u1 u2 => by
    by_cases c : u = j - 1
    · subst c; exact hlo (by omega)
    · exact htr (hs u (j - 1) u1 (by omega) (by omega)) (hlo (by omega))
  unfold insF
  by_cases c1 : s < j
  · rw [if_neg (by omega), if_neg (by omega)]
    by_cases c2 : t = j
    · rw [if_pos c2]; exact low s s1 c1
    · rw [if_neg c2]
      by_cases c3 : j < t
      · rw [if_pos (by omega)]; exact hs s (t - 1) s1 (by omega) (by omega)
      · rw [if_neg (by omega)]; exact hs s t s1 s2 (by omega)
  · by_cases c2 : s = j
    · rw [if_pos c2, if_neg (by omega), if_pos (by omega)]; exact hhi (t - 1) (by omega) (by omega)
    · rw [if_neg c2, if_pos (by omega), if_neg (by omega), if_pos (by omega)]; exact hs (s - 1) (t - 1) (by omega) (by omega) (by omega)
/-- A comparison that only reads: what it tells of two numbers, in whatever world Inv holds. -/
structure CmpOk (gf : Nat) (caps : Array Value) (g : Nat) (V : Int → Prop) (cf : Int → Int → Int) (Inv : World → Prop) : Prop where
  enter : ∀ args w, (callFunc gf args).run Try.prog w = .ok (.enter gf args) w
  calls : ∀ W, Inv W → ∀ x y, V x → V y → Calls Try.prog gf (#[.int .i64 x, .int .i64 y] ++ caps) W (fun e W' => e = .returned (.int .i64 (cf x y)) ∧ ∃ q, W' = W.drewN q)
  inv : ∀ W W', Inv W → Gr g W W' → Inv W'
  draws : ∀ W q, Inv W → Inv (W.drewN q)
end Go.Proofs.Ytncbieaobadekaa
