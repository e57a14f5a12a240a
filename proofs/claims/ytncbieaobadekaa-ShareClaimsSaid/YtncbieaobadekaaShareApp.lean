/- Package share: Apportion, Allocate: all answers. -/
import Derived.Test.YtncbieaobadekaaShareTop
import Derived.Test.YtncbieaobadekaaAppend
import Derived.Laws.AppendOwnNone
namespace Go.Proofs.Ytncbieaobadekaa
open Go.ChangeShapes Go.WideShapes Go.ChangeAt Go.RowKit
/-- It answers m amounts, and a number that tells what is wrong. -/
def AppP (c : Int) (m : Nat) (P : Nat → Int) (w : World) (e : Ending) (w' : World) : Prop :=
  Below w.heap.size w w' ∧ ∃ ao cap, e = .returned (.tuple #[.slice ao m cap, .int .i64 c]) ∧ IntsAt w' ao m P
/-- The parts of a by weights y, where those that f' has first have one more. -/
def portP (a n : Nat) (y : Nat → Nat) (f' : Nat → Int) (i : Nat) : Int := (qN a (sN y n) y i : Nat) + upN f' (a - sN (qN a (sN y n) y) n) i
/-- f' has the places in the order of the remainders. -/
def FirstP (a n : Nat) (y : Nat → Nat) (f' : Nat → Int) : Prop := SortedOn (ltK (restK (fun i => (rN a (sN y n) y i : Nat)))) f' 0 n ∧ Same 0 n (fun i => (i : Int)) f'
/-- What Apportion answers. -/
inductive AppAns (t : Int) (z : Nat → Int) (n : Nat) : Int → Nat → (Nat → Int) → Prop
  | bad (h : t < 0 ∨ ∃ i, i < n ∧ z i < 0) : AppAns t z n 1 0 (fun _ => 0)
  | big (ht : 0 ≤ t) (hz : ∀ i, i < n → 0 ≤ z i) (h : 9223372036854775807 < sumTo z n) : AppAns t z n 2 0 (fun _ => 0)
  | rule (ht : 0 < t) (hz : ∀ i, i < n → 0 ≤ z i) (h : sumTo z n = 0) : AppAns t z n 17 0 (fun _ => 0)
  | zero (ht : t = 0) (hz : ∀ i, i < n → 0 ≤ z i) (h : sumTo z n ≤ 9223372036854775807) : AppAns t z n 0 n (fun _ => 0)
  | parts (a : Nat) (y : Nat → Nat) (f' : Nat → Int) (ht : t = a) (a0 : 0 < a) (hz : ∀ i, i < n → z i = y i) (c0 : 0 < sN y n) (hc : sN y n ≤ 9223372036854775807) (hf : FirstP a n y f') : AppAns t z n 0 n (portP a n y f')
theorem sumTo_eq {z : Nat → Int} {y : Nat → Nat} : ∀ n, (∀ i, i < n → z i = y i) → sumTo z n = (sN y n : Nat)
  | 0, _ => rfl
  | n + 1, h => by rw [sumTo, sumTo_eq n (fun i hi => h i (by omega)), sN, h n (by omega)]; omega
theorem sumTo_pos {z : Nat → Int} : ∀ n, (∀ i, i < n → 0 ≤ z i) → 0 ≤ sumTo z n
  | 0, _ => Int.le_refl _
  | n + 1, h => by
    have := sumTo_pos n (fun i hi => h i (by omega))
    have := h n (by omega)
    rw [sumTo]; omega
theorem appor_fail (t : Int) (x c : Int) (n cap : Nat) (ao : Option Addr) (hx : c = 1 ∨ c = 2) (w : World)
    (HW : Calls Try.prog 48 #[.int .i64 t, .slice ao n cap] w (Ret (.tuple #[.int .i64 x, .int .i64 c]) w)) :
    Calls Try.prog 14 #[.int .i64 t, .slice ao n cap] w (AppP c 0 (fun _ => 0) w) := by
  have H := Lib.hid HW
  clear HW
  rcases hx with rfl | rfl
  all_goals
    go_enter Try.func14, Try.ntmps14
    go_wp2_with fail
    refine H.out.mono ?_
    rintro e w1 ⟨rfl, h1⟩
    have H1 := Lib.hid h1
    clear h1
    go_wp2
    go_ret2
    exact ⟨H1.out, none, 0, rfl, fun h => absurd h (Nat.lt_irrefl 0)⟩
theorem appor_rule (a n cap : Nat) (ao : Option Addr) (a0 : 0 < a) (w : World)
    (HW : Calls Try.prog 48 #[.int .i64 a, .slice ao n cap] w (Ret (.tuple #[.int .i64 0, .int .i64 0]) w)) :
    Calls Try.prog 14 #[.int .i64 a, .slice ao n cap] w (AppP 17 0 (fun _ => 0) w) := by
  have H := Lib.hid HW
  have d1 : ((a : Int) == 0) = false := by rw [beq_eq_false_iff_ne]; omega
  clear HW a0
  go_enter Try.func14, Try.ntmps14
  go_wp2_with fail
  refine H.out.mono ?_
  rintro e w1 ⟨rfl, h1⟩
  have H1 := Lib.hid h1
  clear h1
  go_wp2
  go_ret2
  exact ⟨H1.out, none, 0, rfl, fun h => absurd h (Nat.lt_irrefl 0)⟩
theorem appor_zero (n cap : Nat) (ao : Option Addr) (s : Int) (hn : n ≤ 1000000) (w : World)
    (HW : Calls Try.prog 48 #[.int .i64 0, .slice ao n cap] w (Ret (.tuple #[.int .i64 s, .int .i64 0]) w)) :
    Calls Try.prog 14 #[.int .i64 0, .slice ao n cap] w (AppP 0 n (fun _ => 0) w) := by
  have H := Lib.hid HW
  have mk := makeI n hn
  have n1 : (n : Int) ≤ 1000000 := by omega
  clear HW hn
  go_enter Try.func14, Try.ntmps14
  go_wp2_with fail
  refine H.out.mono ?_
  rintro e w1 ⟨rfl, h1⟩
  have H1 := Lib.hid h1
  clear h1
  go_wp2
  go_ret2
  exact ⟨H1.out.alloc H1.out.size _, _, _, rfl, (RowI.made w1 n).ints⟩
theorem nat_of {z : Nat → Int} {n : Nat} (hz : ∀ i, i < n → 0 ≤ z i) : ∀ i, i < n → z i = ((fun i => (z i).toNat) i : Nat) := fun i hi => by
  have := hz i hi
  show z i = ((z i).toNat : Int)
  omega
theorem appor_all (t : Int) (z : Nat → Int) (n cap : Nat) (ao : Option Addr) (hn : n ≤ 60) (ht : t ≤ 9223372036854775807) (hz : ∀ i, i < n → z i ≤ 9223372036854775807) (w : World) (h : IntsAt w ao n z) :
    Calls Try.prog 14 #[.int .i64 t, .slice ao n cap] w (fun e w' => ∃ c m P, AppAns t z n c m P ∧ AppP c m P w e w') := by
  by_cases hb : t < 0 ∨ ∃ i, i < n ∧ z i < 0
  · exact (appor_fail t 0 1 n cap ao (Or.inl rfl) w (weigh_arg t z n cap ao (by omega) hb w h)).mono fun e w' h => ⟨_, _, _, .bad hb, h⟩
  have ht0 : 0 ≤ t := by
    rcases Int.lt_or_le t 0 with h | h
    · exact absurd (Or.inl h) hb
    · exact h
  have hz0 : ∀ i, i < n → 0 ≤ z i := fun i hi => by
    rcases Int.lt_or_le (z i) 0 with h | h
    · exact absurd (Or.inr ⟨i, hi, h⟩) hb
    · exact h
  have hw := weigh_sum t z n cap ao (by omega) ht0 (fun i hi => ⟨hz0 i hi, hz i hi⟩) w h
  have hs0 := sumTo_pos n hz0
  by_cases hbig : 9223372036854775807 < sumTo z n
  · rw [amt_out (by omega)] at hw
    exact (appor_fail t 0 2 n cap ao (Or.inr rfl) w hw).mono fun e w' h => ⟨_, _, _, .big ht0 hz0 hbig, h⟩
  rw [amt_in (by omega)] at hw
  obtain ⟨a, rfl⟩ : ∃ a : Nat, t = a := ⟨t.toNat, by omega⟩
  rcases Nat.eq_zero_or_pos a with rfl | a0
  · exact (appor_zero n cap ao _ (by omega) w hw).mono fun e w' h => ⟨_, _, _, .zero rfl hz0 (by omega), h⟩
  by_cases hs : sumTo z n = 0
  · rw [hs] at hw
    exact (appor_rule a n cap ao a0 w hw).mono fun e w' h => ⟨_, _, _, .rule (by omega) hz0 hs, h⟩
  have hy := nat_of hz0
  have hsy := sumTo_eq n hy
  refine (appor_few a n cap (fun i => (z i).toNat) ao hn a0 (by omega) (by omega) (by omega) w (h.congr hy)).mono ?_
  rintro e w' ⟨hb', g, f', hg, rfl, h1, h2, h3⟩
  exact ⟨0, n, _, .parts a _ f' rfl a0 hy (by omega) (by omega) ⟨h1, h2⟩, hb', _, _, rfl, h3.ints⟩
end Go.Proofs.Ytncbieaobadekaa
