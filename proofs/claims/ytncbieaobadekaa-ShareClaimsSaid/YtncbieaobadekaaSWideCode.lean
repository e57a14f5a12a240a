/- Package wide: Mul, Less, Plus, Minus, Cmp: for all words and wide numbers. -/
import Derived.Test.YtncbieaobadekaaSWideRefs
import Derived.Test.YtncbieaobadekaaShelf
import Derived.Lib.Hide
import Derived.Laws.Externs
import Derived.Shelf.Spec.BitsCarry
namespace Go.Proofs.Ytncbieaobadekaa
open Go.ChangeShapes Go.WideShapes Go.ChangeAt Go.RowKit
/-- A wide number, as a value. -/
def wv (N : Nat) : Value := .agg #[.int .u64 (N / 18446744073709551616 : Nat), .int .u64 (N % 18446744073709551616 : Nat)]
theorem wv_of (h l : Nat) (hl : l < 18446744073709551616) : wv (h * 18446744073709551616 + l) = .agg #[.int .u64 (h : Nat), .int .u64 (l : Nat)] := by
  unfold wv
  rw [show (h * 18446744073709551616 + l) / 18446744073709551616 = h from by omega, show (h * 18446744073709551616 + l) % 18446744073709551616 = l from by omega]
theorem wv_is {h l N : Nat} (hl : l < 18446744073709551616) (e : h * 18446744073709551616 + l = N) : wv N = .agg #[.int .u64 (h : Nat), .int .u64 (l : Nat)] := by rw [← e]; exact wv_of h l hl
theorem words_of (N : Nat) (hN : N < 340282366920938463463374607431768211456) : ∃ h l : Nat, (h : Int) < 18446744073709551616 ∧ (l : Int) < 18446744073709551616 ∧ N = h * 18446744073709551616 + l ∧ wv N = .agg #[.int .u64 (h : Nat), .int .u64 (l : Nat)] :=
  ⟨N / 18446744073709551616, N % 18446744073709551616, by omega, by omega, by omega, rfl⟩

set_option maxHeartbeats 400000 in
theorem wmul_any (a b : Nat) (ha : a < 18446744073709551616) (hb : b < 18446744073709551616) (w : World) :
    Calls Try.prog 109 #[.int .u64 a, .int .u64 b] w (Ret (wv (a * b)) w) := by
  have h := fun (w : World) => Try.bits_Mul64 a b ha hb w
  unfold wv
  generalize a * b / 18446744073709551616 = x at h ⊢
  generalize a * b % 18446744073709551616 = y at h ⊢
  have H := Lib.hid h
  clear h
  go_enter Try.func109, Try.ntmps109
  go_wp2_with fail
  refine (H.out _).mono ?_
  rintro e w1 ⟨rfl, rfl⟩
  go_wp2
  go_returns
  exact ⟨rfl, by go_grown⟩

theorem mul_lt {a b : Nat} (ha : a < 18446744073709551616) (hb : b < 18446744073709551616) : a * b < 340282366920938463463374607431768211456 := by
  have := Nat.mul_lt_mul'' ha hb
  simpa using this
end Go.Proofs.Ytncbieaobadekaa
