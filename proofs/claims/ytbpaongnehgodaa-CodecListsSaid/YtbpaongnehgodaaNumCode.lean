/- Package num: code, number, Get. -/
import Derived.Test.YtbpaongnehgodaaNumMath
namespace Go.Proofs.Ytbpaongnehgodaa
open Go.ChangeShapes Go.WideShapes Go.ChangeAt Go.RowKit
theorem bits64 (o : BinOp) (f : Nat → Nat → Nat) (a b : Nat) (ha : a < 18446744073709551616) (hb : b < 18446744073709551616)
    (ho : bits o IntKind.u64 (a : Int) (b : Int) = IntKind.u64.wrap ((f (BitVec.ofInt 64 (a : Int)).toNat (BitVec.ofInt 64 (b : Int)).toNat : Nat) : Int)) (hf : f a b < 18446744073709551616) :
    bits o IntKind.u64 (a : Int) (b : Int) = ((f a b : Nat) : Int) := by
  have e1 : (BitVec.ofInt 64 (a : Int)).toNat = a := by rw [BitVec.toNat_ofInt]; omega
  have e2 : (BitVec.ofInt 64 (b : Int)).toNat = b := by rw [BitVec.toNat_ofInt]; omega
  rw [ho, e1, e2, IntKind.wrap_u64]
  omega
theorem and64 (a b : Nat) (ha : a < 18446744073709551616) (hb : b < 18446744073709551616) : bits BinOp.and IntKind.u64 (a : Int) (b : Int) = ((a &&& b : Nat) : Int) :=
  bits64 .and (fun x y => x &&& y) a b ha hb (by show IntKind.u64.wrap _ = _; rw [BitVec.toNat_and]; rfl) (Nat.and_lt_two_pow (n := 64) _ hb)
theorem or64 (a b : Nat) (ha : a < 18446744073709551616) (hb : b < 18446744073709551616) : bits BinOp.or IntKind.u64 (a : Int) (b : Int) = ((a ||| b : Nat) : Int) :=
  bits64 .or (fun x y => x ||| y) a b ha hb (by show IntKind.u64.wrap _ = _; rw [BitVec.toNat_or]; rfl) (Nat.or_lt_two_pow (n := 64) ha hb)
theorem and1 (c : Nat) (hc : c < 18446744073709551616) : bits BinOp.and IntKind.u64 (c : Int) 1 = (c : Int) % 2 := by
  have := and64 c 1 hc (by decide)
  rw [Nat.and_one_is_mod] at this
  exact this
theorem or1 (c : Nat) (hc : 2 * c < 18446744073709551616) : bits BinOp.or IntKind.u64 (2 * (c : Int)) 1 = 2 * (c : Int) + 1 := by
  have h := or64 (2 * c) 1 hc (by decide)
  have e : 2 * c ||| 1 = 2 * c + 1 := by
    have := Nat.two_pow_add_eq_or_of_lt (i := 1) (b := 1) (by decide) c
    simpa using this.symm
  rw [e] at h
  have e2 : ((2 * c : Nat) : Int) = 2 * (c : Int) := by omega
  have e3 : ((2 * c + 1 : Nat) : Int) = 2 * (c : Int) + 1 := by omega
  rw [e2, e3] at h
  exact h
theorem not_i64 (b : Int) (hb : -9223372036854775808 ≤ b ∧ b ≤ 9223372036854775807) : bits .xor .i64 (-1) b = -b - 1 := by
  have h1 : (BitVec.ofInt 64 (-1)) = BitVec.allOnes 64 := by decide
  have h2 : ((BitVec.ofInt 64 b).toNat : Int) = b % 18446744073709551616 := by
    rw [BitVec.toNat_ofInt]
    omega
  show IntKind.i64.wrap ((BitVec.ofInt 64 (-1) ^^^ BitVec.ofInt 64 b).toNat : Int) = _
  rw [h1, BitVec.allOnes_xor, BitVec.toNat_not]
  have h3 : ((2 ^ 64 - 1 - (BitVec.ofInt 64 b).toNat : Nat) : Int) = 18446744073709551615 - b % 18446744073709551616 := by
    have := (BitVec.ofInt 64 b).isLt
    omega
  rw [h3]
  simp only [IntKind.wrap, IntKind.bits, IntKind.signed]
  simp
  omega
theorem number_any (c : Nat) (hc : c < 18446744073709551616) (w : World) :
    Calls Try.prog 51 #[.int .u64 c] w (RetS (.int .i64 (numN c)) w) := by
  have h1 : (c : Int) ≤ 18446744073709551615 := by omega
  have ea := and1 c hc
  have en := not_i64 ((c : Int) / 2) (by omega)
  by_cases hodd : c % 2 = 1
  · have b : ((c : Int) % 2 == 1) = true := by rw [beq_iff_eq]; omega
    have HV : Hid (-((c / 2 : Nat) : Int) - 1 = numN c) := by show _ = _; unfold numN; rw [if_neg (by omega)]
    clear hodd hc
    go_enter Try.func51, Try.ntmps51
    go_wp2
    go_ret
    exact ⟨by rw [← HV.out]; rfl, rfl⟩
  · have b : ((c : Int) % 2 == 1) = false := by rw [beq_eq_false_iff_ne]; omega
    have HV : Hid (((c / 2 : Nat) : Int) = numN c) := by show _ = _; unfold numN; rw [if_pos (by omega)]
    clear hodd hc
    go_enter Try.func51, Try.ntmps51
    go_wp2
    go_ret
    exact ⟨by rw [← HV.out]; rfl, rfl⟩
theorem code_any (n : Int) (hn : -9223372036854775808 ≤ n ∧ n ≤ 9223372036854775807) (w : World) :
    Calls Try.prog 39 #[.int .i64 n] w (RetS (.int .u64 (codeN n : Nat)) w) := by
  obtain ⟨n1, n2⟩ := hn
  by_cases hneg : n < 0
  · have b := decide_eq_true hneg
    obtain ⟨m, hm⟩ : ∃ m : Nat, n = -(m : Int) - 1 := ⟨(-n - 1).toNat, by omega⟩
    have hm2 : (m : Int) ≤ 9223372036854775807 := by omega
    have en : bits .xor .i64 (-1) n = (m : Int) := by rw [not_i64 n ⟨n1, n2⟩]; omega
    have HV : Hid (2 * (m : Int) + 1 = ((codeN n : Nat) : Int)) := by show _ = _; unfold codeN; rw [if_neg (by omega)]; omega
    have e1 : IntKind.u64.wrap (m : Int) = m := by rw [IntKind.wrap_u64]; omega
    have e2 : IntKind.u64.wrap ((m : Int) * 2) = 2 * m := by rw [IntKind.wrap_u64]; omega
    have e3 := or1 m (by omega)
    clear hm hneg
    go_enter Try.func39, Try.ntmps39
    go_wp2
    go_ret
    exact ⟨by rw [← HV.out]; rfl, rfl⟩
  · have b := decide_eq_false hneg
    obtain ⟨m, rfl⟩ : ∃ m : Nat, n = (m : Int) := ⟨n.toNat, by omega⟩
    have HV : Hid ((m : Int) * 2 = ((codeN (m : Int) : Nat) : Int)) := by show _ = _; unfold codeN; rw [if_pos (by omega)]; omega
    have e1 : IntKind.u64.wrap (m : Int) = m := by rw [IntKind.wrap_u64]; omega
    have e2 : IntKind.u64.wrap ((m : Int) * 2) = m * 2 := by rw [IntKind.wrap_u64]; omega
    clear hneg n1
    go_enter Try.func39, Try.ntmps39
    go_wp2
    go_ret
    exact ⟨by rw [← HV.out]; rfl, rfl⟩
end Go.Proofs.Ytbpaongnehgodaa
