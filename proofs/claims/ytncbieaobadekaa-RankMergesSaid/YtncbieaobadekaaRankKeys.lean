/- Keys in memory; the order of keys; the comparator of package rank's Order. -/
import Derived.Test.YtncbieaobadekaaShelf
import Derived.Test.YtncbieaobadekaaRankCmp
import Derived.Test.YtncbieaobadekaaRankOrd
namespace Go.Proofs.Ytncbieaobadekaa
open Go.ChangeShapes Go.WideShapes Go.ChangeAt Go.RowKit
/-- A key as it lies: its address, its length, its room, its numbers. -/
structure Key where
  ao : Option Addr
  n : Nat
  cap : Nat
  z : Nat → Int
def Key.val (k : Key) : Value := .slice k.ao k.n k.cap
def Key.lst (k : Key) : List Int := toL k.z k.n 0
def cmpK (a b : Key) : Int := cmpL a.lst b.lst
theorem cmpK_Z (a b : Key) : cmpZ a.z a.n b.z b.n = cmpK a b := cmpZ_list _ _ _ _
/-- n keys lie at the address; of none nothing is said. -/
def KeysAt (w : World) (ao : Option Addr) (n : Nat) (K : Nat → Key) : Prop :=
  (∀ i, i < n → (K i).n ≤ 1000000 ∧ IntsAt w (K i).ao (K i).n (K i).z) ∧ (0 < n → ∃ b off, ao = some ⟨b, off, none⟩ ∧ b < w.heap.size ∧ ∀ i, i < n → w.cell? ⟨b, off + i, none⟩ = some (K i).val)
theorem KeysAt.below {w w' : World} {ao : Option Addr} {n : Nat} {K : Nat → Key} (h : KeysAt w ao n K) (hb : Below w.heap.size w w') : KeysAt w' ao n K :=
  ⟨fun i hi => ⟨(h.1 i hi).1, (h.1 i hi).2.below hb⟩, fun hn => by
    obtain ⟨b, off, e, hlt, hc⟩ := h.2 hn
    exact ⟨b, off, e, Nat.lt_of_lt_of_le hlt hb.size, fun i hi => (hb.cell (by exact hlt)).trans (hc i hi)⟩⟩
theorem KeysAt.congr {w : World} {ao : Option Addr} {n : Nat} {K K' : Nat → Key} (h : KeysAt w ao n K) (e : ∀ i, i < n → K i = K' i) : KeysAt w ao n K' :=
  ⟨fun i hi => by rw [← e i hi]; exact h.1 i hi, fun hn => by
    obtain ⟨b, off, e1, hlt, hc⟩ := h.2 hn
    exact ⟨b, off, e1, hlt, fun i hi => by rw [← e i hi]; exact hc i hi⟩⟩
/-- The order of keys: of like ones the first comes first. -/
def ordC (K : Nat → Key) (x y : Nat) : Int := if cmpK (K x) (K y) ≠ 0 then cmpK (K x) (K y) else Lib.compareInt x y
def ordLt (K : Nat → Key) (x y : Nat) : Bool := decide (cmpK (K x) (K y) < 0) || (cmpK (K x) (K y) == 0 && decide (x < y))
theorem ordC_lt (K : Nat → Key) (x y : Nat) : decide (ordC K x y < 0) = ordLt K x y := by
  unfold ordC ordLt
  by_cases h : cmpK (K x) (K y) = 0
  · rw [if_neg (by simpa using h), h]
    unfold Lib.compareInt
    by_cases h1 : x < y
    · have : (x : Int) < y := by omega
      simp [h1, this]
    · have : ¬ (x : Int) < y := by omega
      by_cases h2 : y < x
      · have h3 : (y : Int) < x := by omega
        simp [h1, this, h3]
      · have h3 : ¬ (y : Int) < x := by omega
        simp [h1, this, h3]
  · rw [if_pos (by simpa using h)]
    have : (cmpK (K x) (K y) == 0) = false := by simpa using h
    simp [this]
theorem cmpK_lt_trans {a b c : Key} (h1 : cmpK a b ≤ 0) (h2 : cmpK b c ≤ 0) (h : cmpK a b < 0 ∨ cmpK b c < 0) : cmpK a c < 0 := by
  unfold cmpK at *
  have h3 := cmpL_trans _ _ _ h1 h2
  rcases Int.lt_or_eq_of_le h3 with h4 | h4
  · exact h4
  · exfalso
    have e := cmpL_eq _ _ h4
    rw [e] at h1 h
    have := cmpL_swap c.lst b.lst
    omega
theorem ordLt_iff (K : Nat → Key) (x y : Nat) : ordLt K x y = true ↔ cmpK (K x) (K y) < 0 ∨ (cmpK (K x) (K y) = 0 ∧ x < y) := by
  unfold ordLt
  simp
theorem ordLt_n (K : Nat → Key) (n : Nat) : LtN (ordLt K) n where
  irrefl x := by
    cases h : ordLt K x x
    · rfl
    · rcases (ordLt_iff K x x).1 h with h | h
      · unfold cmpK at h; rw [cmpL_self] at h; omega
      · omega
  trans x y z h1 h2 := by
    rw [ordLt_iff] at *
    rcases h1 with h1 | ⟨h1, h1'⟩
    · exact Or.inl (cmpK_lt_trans (by omega) (by omega) (Or.inl h1))
    · rcases h2 with h2 | ⟨h2, h2'⟩
      · exact Or.inl (cmpK_lt_trans (by omega) (by omega) (Or.inr h2))
      · refine Or.inr ⟨?_, by omega⟩
        unfold cmpK at *
        rw [cmpL_eq _ _ h1]
        exact h2
  total x y _ _ hne := by
    rw [ordLt_iff, ordLt_iff]
    have : cmpK (K y) (K x) = - cmpK (K x) (K y) := cmpL_swap _ _
    omega
set_option maxHeartbeats 1000000 in
theorem order1_any (K : Nat → Key) (n cap b off p x y : Nat) (hn : n ≤ 1000000) (hx : x < n) (hy : y < n) (w : World) (hp : w.cell? ⟨p, 0, none⟩ = some (.slice (some ⟨b, off, none⟩) n cap)) (h : KeysAt w (some ⟨b, off, none⟩) n K) :
    Calls Try.prog 70 #[.int .i64 x, .int .i64 y, .pointer (some ⟨p, 0, none⟩)] w (fun e w' => e = .returned (.int .i64 (ordC K x y)) ∧ ∃ q, w' = w.drewN q) := by
  have HI : Hid (∀ q : Nat, ∀ i, i < n → IntsAt (w.drewN q) (K i).ao (K i).n (K i).z) := fun q i hi => (h.1 i hi).2
  have C : ∀ q : Nat, Calls Try.prog 37 #[(K x).val, (K y).val] (w.drewN q) (fun e w' => e = .returned (.int .i64 (cmpK (K x) (K y))) ∧ ∃ k, w' = (w.drewN q).drewN k) := fun q => by
    have := rcmp_any (K x).z (K y).z (K x).n (K x).cap (K y).n (K y).cap (K x).ao (K y).ao (h.1 x hx).1 (h.1 y hy).1 (w.drewN q) (HI.out q x hx) (HI.out q y hy)
    rw [cmpK_Z] at this
    exact this.mono fun e w' h => ⟨h.1, 0, h.2 ▸ rfl⟩
  have HC := Lib.hid C
  obtain ⟨b', off', e1, hlt, hc⟩ := h.2 (by omega)
  obtain ⟨rfl, rfl⟩ : b' = b ∧ off' = off := by injection e1 with e1; injection e1 with a1 a2; exact ⟨a1.symm, a2.symm⟩
  have c1 := hc x hx
  have c2 := hc y hy
  have x1 : (x : Int) < n := by omega
  have y1 : (y : Int) < n := by omega
  have n1 : (n : Int) ≤ 1000000 := by omega
  have CI := Lib.hid (fun W => Try.cmp_Compare_int (x : Int) (y : Int) W)
  by_cases hz : cmpK (K x) (K y) = 0
  · have e : ordC K x y = Lib.compareInt x y := if_neg (by simpa using hz)
    rw [e]
    rw [hz] at HC
    obtain ⟨r, hr⟩ : ∃ r, r = Lib.compareInt x y := ⟨_, rfl⟩
    rw [← hr] at CI ⊢
    clear hc hx hy hn C h e1 hz e hr hlt
    generalize (K x).val = u at *
    generalize (K y).val = v at *
    go_enter Try.func70, Try.ntmps70
    go_wp2_with fail
    go_quiet ((go_at_call 37; exact Calls.quiet_of (HC.out _)))
    go_wp2_with fail
    refine (CI.out _).mono ?_
    rintro e w1 ⟨rfl, rfl⟩
    go_wp2
    go_ret
    exact ⟨rfl, _, rfl⟩
  · have e : ordC K x y = cmpK (K x) (K y) := if_pos (by simpa using hz)
    rw [e]
    have d : (cmpK (K x) (K y) != 0) = true := by simpa using hz
    have d2 : (cmpK (K x) (K y) == 0) = false := by simpa using hz
    obtain ⟨r, hr⟩ : ∃ r, r = cmpK (K x) (K y) := ⟨_, rfl⟩
    rw [← hr] at HC d d2 ⊢
    clear hc hx hy hn C h e1 hz e hr hlt
    generalize (K x).val = u at *
    generalize (K y).val = v at *
    go_enter Try.func70, Try.ntmps70
    go_wp2_with fail
    go_quiet ((go_at_call 37; exact Calls.quiet_of (HC.out _)))
    go_wp2
    go_ret
    exact ⟨rfl, _, rfl⟩
end Go.Proofs.Ytncbieaobadekaa
