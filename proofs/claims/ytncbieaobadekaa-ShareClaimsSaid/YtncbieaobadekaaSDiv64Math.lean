/- Division of two words by one, digit by digit of 2^32: the numbers alone. -/
import Derived.Test.YtncbieaobadekaaWideMath
namespace Go.Proofs.Ytncbieaobadekaa
open Go.RowKit
/-- A guess q for (U 2^32 + v) / Y that is not too small; r is what U has beyond q times Y's upper half. -/
structure QSt (U v Y n1 n0 q r : Nat) : Prop where
  y : Y = n1 * 4294967296 + n0
  n1lo : 2147483648 ≤ n1
  n1hi : n1 < 4294967296
  n0hi : n0 < 4294967296
  vhi : v < 4294967296
  uy : U < Y
  eq : U = q * n1 + r
  ge : (U * 4294967296 + v) / Y ≤ q
  rl : r < 4294967296
  ql : q ≤ 4294967297
theorem div_le_of {a b q : Nat} (hb : 0 < b) (h : a < (q + 1) * b) : a / b ≤ q := Nat.le_of_lt_succ ((Nat.div_lt_iff_lt_mul hb).2 h)
theorem QSt.start {U v Y n1 n0 : Nat} (y : Y = n1 * 4294967296 + n0) (h1 : 2147483648 ≤ n1) (h2 : n1 < 4294967296) (h3 : n0 < 4294967296) (hv : v < 4294967296) (hu : U < Y) :
    QSt U v Y n1 n0 (U / n1) (U % n1) := by
  have e := Nat.div_add_mod U n1
  have hm := Nat.mod_lt U (show 0 < n1 by omega)
  refine ⟨y, h1, h2, h3, hv, hu, by rw [Nat.mul_comm]; exact e.symm, ?_, by omega, ?_⟩
  · refine div_le_of (by omega) ?_
    -- U 2^32 + v < (U / n1 + 1) n1 2^32 ≤ (U / n1 + 1) Y
    have a : U < (U / n1 + 1) * n1 := by rw [Nat.add_mul, Nat.one_mul, Nat.mul_comm]; omega
    have b : (U / n1 + 1) * (n1 * 4294967296) ≤ (U / n1 + 1) * Y := Nat.mul_le_mul_left _ (by omega)
    rw [← Nat.mul_assoc] at b
    omega
  · have a : U / n1 * n1 ≤ U := Nat.div_mul_le_self _ _
    rcases Nat.lt_or_ge 4294967297 (U / n1) with h | h
    · have b : 4294967298 * n1 ≤ U / n1 * n1 := Nat.mul_le_mul_right _ h
      omega
    · exact h
/-- The guess is right just where it is small and passes the test. -/
theorem QSt.big {U v Y n1 n0 q r : Nat} (h : QSt U v Y n1 n0 q r) (hq : 4294967296 ≤ q) : (U * 4294967296 + v) / Y < q := by
  have h1 := h.uy
  have h2 := h.vhi
  refine Nat.lt_of_lt_of_le ((Nat.div_lt_iff_lt_mul (by omega)).2 ?_) hq
  have : 4294967296 * Y = Y * 4294967296 := Nat.mul_comm _ _
  omega
theorem QSt.over {U v Y n1 n0 q r : Nat} (h : QSt U v Y n1 n0 q r) (ht : 4294967296 * r + v < q * n0) : (U * 4294967296 + v) / Y < q := by
  have h1 := h.uy
  refine (Nat.div_lt_iff_lt_mul (by omega)).2 ?_
  rw [h.y, Nat.mul_add, ← Nat.mul_assoc]
  have := h.eq
  omega
theorem QSt.right {U v Y n1 n0 q r : Nat} (h : QSt U v Y n1 n0 q r) (ht : q * n0 ≤ 4294967296 * r + v) : q = (U * 4294967296 + v) / Y := by
  have h1 := h.uy
  refine Nat.le_antisymm ?_ h.ge
  refine (Nat.le_div_iff_mul_le (by omega)).2 ?_
  rw [h.y, Nat.mul_add, ← Nat.mul_assoc]
  have := h.eq
  omega
theorem QSt.less {U v Y n1 n0 q r : Nat} (h : QSt U v Y n1 n0 q r) (hq : (U * 4294967296 + v) / Y < q) (hr : r + n1 < 4294967296) : QSt U v Y n1 n0 (q - 1) (r + n1) := by
  have h5 := h.ql
  have h6 : 0 < q := Nat.lt_of_le_of_lt (Nat.zero_le _) hq
  refine ⟨h.y, h.n1lo, h.n1hi, h.n0hi, h.vhi, h.uy, ?_, Nat.le_sub_one_of_lt hq, hr, by omega⟩
  obtain ⟨p, rfl⟩ : ∃ p, q = p + 1 := ⟨q - 1, by omega⟩
  rw [h.eq, Nat.add_sub_cancel, Nat.add_mul, Nat.one_mul]
  omega
theorem QSt.last {U v Y n1 n0 q r : Nat} (h : QSt U v Y n1 n0 q r) (hq : (U * 4294967296 + v) / Y < q) (hr : 4294967296 ≤ r + n1) : q - 1 = (U * 4294967296 + v) / Y := by
  have h1 := h.uy
  have h2 := h.ql
  have h3 := h.n0hi
  have h6 : 0 < q := Nat.lt_of_le_of_lt (Nat.zero_le _) hq
  refine Nat.le_antisymm ?_ (Nat.le_sub_one_of_lt hq)
  refine (Nat.le_div_iff_mul_le (by omega)).2 ?_
  obtain ⟨p, rfl⟩ : ∃ p, q = p + 1 := ⟨q - 1, by omega⟩
  have h4 : p * n0 ≤ 4294967296 * 4294967295 := Nat.mul_le_mul (by omega) (by omega)
  have h5 := h.eq
  rw [Nat.add_mul, Nat.one_mul] at h5
  rw [h.y, Nat.add_sub_cancel, Nat.mul_add, ← Nat.mul_assoc]
  omega
theorem QSt.prod {U v Y n1 n0 q r : Nat} (h : QSt U v Y n1 n0 q r) (hq : q < 4294967296) : q * n0 < 18446744073709551616 := by
  have h3 := h.n0hi
  have : q * n0 ≤ 4294967295 * 4294967295 := Nat.mul_le_mul (by omega) (by omega)
  omega
theorem quot_small {U v Y : Nat} (hu : U < Y) (hv : v < 4294967296) : (U * 4294967296 + v) / Y < 4294967296 := by
  have hy : 0 < Y := by omega
  refine (Nat.div_lt_iff_lt_mul hy).2 ?_
  have : 4294967296 * Y = Y * 4294967296 := Nat.mul_comm _ _
  omega
/-- What is left, in words that wrap round. -/
theorem rest_wrap (A P R : Nat) (h : A = P + R) (hR : R < 18446744073709551616) : ((A : Int) - (P : Int)) % 18446744073709551616 = (R : Int) := by
  have e : (A : Int) - (P : Int) = (R : Int) := by omega
  rw [e]
  exact Int.emod_eq_of_lt (by omega) (by omega)

/-- The two digits are the quotient; what is left, shifted back, is the rest. -/
theorem two_digits_of (U Y v1 v0 q r : Nat) (hY : 0 < Y) (e : Y * q + r = U * 4294967296 + v1) :
    q * 4294967296 + (r * 4294967296 + v0) / Y = (U * 18446744073709551616 + v1 * 4294967296 + v0) / Y ∧
    (r * 4294967296 + v0) % Y = (U * 18446744073709551616 + v1 * 4294967296 + v0) % Y := by
  have e2 : U * 18446744073709551616 + v1 * 4294967296 + v0 = (r * 4294967296 + v0) + Y * (q * 4294967296) := by
    rw [← Nat.mul_assoc]; omega
  rw [e2, Nat.add_mul_div_left _ _ hY, Nat.add_mul_mod_self_left]
  exact ⟨Nat.add_comm _ _, rfl⟩
theorem two_digits (U Y v1 v0 : Nat) (hY : 0 < Y) :
    ((U * 4294967296 + v1) / Y) * 4294967296 + ((U * 4294967296 + v1) % Y * 4294967296 + v0) / Y = (U * 18446744073709551616 + v1 * 4294967296 + v0) / Y ∧
    ((U * 4294967296 + v1) % Y * 4294967296 + v0) % Y = (U * 18446744073709551616 + v1 * 4294967296 + v0) % Y :=
  two_digits_of U Y v1 v0 _ _ hY (Nat.div_add_mod (U * 4294967296 + v1) Y)

/-- The numbers, shifted to the left by s. -/
structure Shift (h l c s Y U V : Nat) : Prop where
  s6 : s < 64
  y : Y = c * 2 ^ s
  ylo : 9223372036854775808 ≤ Y
  yhi : Y < 18446744073709551616
  uy : U < Y
  v : V < 18446744073709551616
  eq : U * 18446744073709551616 + V = (h * 18446744073709551616 + l) * 2 ^ s
theorem pow_split {s : Nat} (h : s < 64) : 2 ^ s * 2 ^ (64 - s) = 18446744073709551616 := by
  rw [← Nat.pow_add, show s + (64 - s) = 64 from by omega]
theorem Shift.make {h l c s : Nat} (hs : s < 64) (hl : l < 18446744073709551616) (hc : h < c) (lo : 9223372036854775808 ≤ c * 2 ^ s) (hi : c * 2 ^ s < 18446744073709551616) :
    Shift h l c s (c * 2 ^ s) (h * 2 ^ s + l / 2 ^ (64 - s)) (l * 2 ^ s % 18446744073709551616) := by
  have hp := pow_split hs
  have hp0 : 0 < 2 ^ s := Nat.two_pow_pos s
  have hq0 : 0 < 2 ^ (64 - s) := Nat.two_pow_pos _
  have e3 : (h + 1) * 2 ^ s ≤ c * 2 ^ s := Nat.mul_le_mul_right _ hc
  rw [Nat.add_mul, Nat.one_mul] at e3
  have e1 : l / 2 ^ (64 - s) < 2 ^ s := (Nat.div_lt_iff_lt_mul hq0).2 (by omega)
  have e2 : l * 2 ^ s / 18446744073709551616 = l / 2 ^ (64 - s) := by
    rw [← hp, Nat.mul_comm (2 ^ s), Nat.mul_div_mul_right _ _ hp0]
  have e4 := Nat.div_add_mod (l * 2 ^ s) 18446744073709551616
  rw [e2] at e4
  have e5 : (h * 18446744073709551616 + l) * 2 ^ s = h * 2 ^ s * 18446744073709551616 + l * 2 ^ s := by
    rw [Nat.add_mul, Nat.mul_right_comm]
  refine ⟨hs, rfl, lo, hi, ?_, Nat.mod_lt _ (by omega), ?_⟩
  · generalize l / 2 ^ (64 - s) = t at *
    generalize h * 2 ^ s = u at *
    generalize c * 2 ^ s = y at *
    generalize 2 ^ s = p at *
    omega
  · rw [e5]
    generalize l * 2 ^ s % 18446744073709551616 = m at *
    generalize l * 2 ^ s = k at *
    generalize l / 2 ^ (64 - s) = t at *
    generalize h * 2 ^ s = u at *
    clear lo hi e1 e3 e2 e5
    omega
theorem Shift.ends {h l c s Y U V : Nat} (S : Shift h l c s Y U V) :
    (U * 18446744073709551616 + V) / Y = (h * 18446744073709551616 + l) / c ∧ (U * 18446744073709551616 + V) % Y / 2 ^ s = (h * 18446744073709551616 + l) % c := by
  have hp0 : 0 < 2 ^ s := Nat.two_pow_pos s
  rw [S.eq, S.y, Nat.mul_div_mul_right _ _ hp0, Nat.mul_mod_mul_right, Nat.mul_div_cancel _ hp0]
  exact ⟨rfl, rfl⟩
theorem or_split (a b s : Nat) (h : b < 2 ^ s) : a * 2 ^ s ||| b = a * 2 ^ s + b := by
  rw [Nat.mul_comm, ← Nat.two_pow_add_eq_or_of_lt h]
end Go.Proofs.Ytncbieaobadekaa
