/- Package frame: least; the document's number. -/
import Derived.Test.YtbpaongnehgodaaDoorFrameCode
namespace Go.Proofs.YtbpaongnehgodaaDoor
open Go.ChangeShapes Go.WideShapes Go.ChangeAt Go.RowKit
theorem or32 (a b : Nat) (ha : a < 4294967296) (hb : b < 4294967296) : bits BinOp.or IntKind.u32 (a : Int) (b : Int) = ((a ||| b : Nat) : Int) := by
  have h : a ||| b < 2 ^ 32 := Nat.or_lt_two_pow (n := 32) ha hb
  have e1 : (BitVec.ofInt 32 (a : Int)).toNat = a := by rw [BitVec.toNat_ofInt]; omega
  have e2 : (BitVec.ofInt 32 (b : Int)).toNat = b := by rw [BitVec.toNat_ofInt]; omega
  show IntKind.u32.wrap ((BitVec.ofInt 32 (a : Int) ||| BitVec.ofInt 32 (b : Int)).toNat) = _
  rw [BitVec.toNat_or, e1, e2]
  simp [IntKind.wrap, IntKind.bits, IntKind.signed]
  omega
theorem or_byte (x b : Nat) (hx : x < 16777216) (hb : b < 256) : bits BinOp.or IntKind.u32 ((x : Int) * 256) ((b : Int) % 4294967296) = ((x * 256 + b : Nat) : Int) := by
  rw [show (b : Int) % 4294967296 = (b : Int) by omega]
  have h := or32 (x * 256) b (by omega) (by omega)
  have e : x * 256 ||| b = x * 256 + b := by
    have := Nat.two_pow_add_eq_or_of_lt (i := 8) (b := b) hb x
    rw [Nat.mul_comm]
    exact this.symm
  rw [e] at h
  rw [← h]
  congr 1
theorem leastN_24 (L : List UInt8) (i : Nat) (hi : i ≤ 3) : leastN L i < 16777216 :=
  Nat.lt_of_lt_of_le (leastN_lt L i) (Nat.pow_le_pow_right (by decide) hi)
theorem byteAt_in (s : ByteArray) (i : Nat) (h : i < s.size) : byteAt s.data.toList i = s[i].toNat := by
  unfold byteAt
  have hi : i < s.data.toList.length := by simpa using h
  rw [List.getD_eq_getElem?_getD, List.getElem?_eq_getElem hi]
  rfl
theorem byteAt_out (L : List UInt8) (i : Nat) (h : L.length ≤ i) : byteAt L i = 0 := by
  unfold byteAt
  rw [List.getD_eq_getElem?_getD, List.getElem?_eq_none h]
  rfl
theorem len_le {s : ByteArray} {i : Nat} (h : ¬ i < s.size) : s.data.toList.length ≤ i := by
  have : s.data.toList.length = s.size := by simp
  omega
set_option maxHeartbeats 1000000 in
theorem least_any (s : ByteArray) (hs : s.size ≤ 1000000) (w : World) :
    Calls Tryd.prog 46 #[.string s] w (RetS (.int .u32 (least s.data.toList : Nat)) w) := by
  have hs2 : (s.size : Int) ≤ 1000000 := by omega
  clear hs
  go_enter Tryd.func46, Tryd.ntmps46
  go_wp2
  go_loopw [3, 5] (fun nv iv wr => w = wr ∧ ∃ i : Nat, i ≤ 4 ∧ iv = .int .i64 i ∧ nv = .int .u32 (leastN s.data.toList i : Nat)) (fun _ iv _ => 4 - (intOf iv).toNat)
  case atStart => exact ⟨rfl, 0, by decide, rfl, rfl⟩
  case round =>
    obtain ⟨rfl, i, hi, rfl, rfl⟩ := hrel
    by_cases h4 : i < 4
    · have h42 : (i : Int) < 4 := by omega
      have hx := leastN_24 s.data.toList i (by omega)
      have HST : Hid (leastN s.data.toList (i + 1) = leastN s.data.toList i * 256 + byteAt s.data.toList i) := rfl
      obtain ⟨x, hxx⟩ : ∃ x, x = leastN s.data.toList i := ⟨_, rfl⟩
      rw [← hxx] at hx HST ⊢
      have ew : IntKind.u32.wrap ((x : Int) * 256) = (x : Int) * 256 := by simp only [IntKind.wrap, IntKind.bits, IntKind.signed]; simp; omega
      have hx2 : (x : Int) < 16777216 := by omega
      by_cases hlt : i < s.size
      · have hlt2 : (i : Int) < s.size := by omega
        have hb := UInt8.toNat_lt s[i]
        have hor := or_byte x s[i].toNat hx hb
        have HB := Lib.hid (byteAt_in s i hlt)
        clear hxx hx hb
        go_wp2_with fail
        go_roundw
        case rel => exact ⟨by first | trivial | rfl, i + 1, by omega, by go_num, by rw [HST.out, HB.out]; go_num⟩
        case measure => simp [intOf]; omega
      · have hlt2 : ¬ (i : Int) < s.size := by omega
        have d : decide ((i : Int) < s.size) = false := decide_eq_false hlt2
        have d' := decide_eq_false hlt
        have HB := Lib.hid (byteAt_out s.data.toList i (len_le hlt))
        clear hxx hx hlt2 hlt
        go_wp2_with fail
        go_roundw
        case rel => exact ⟨by first | trivial | rfl, i + 1, by omega, by go_num, by rw [HST.out, HB.out, Nat.add_zero]; first | rfl | (congr 1; push_cast; rfl)⟩
        case measure => simp [intOf]; omega
    · obtain rfl : i = 4 := by omega
      go_wp2
      go_ret
      exact ⟨rfl, rfl⟩
end Go.Proofs.YtbpaongnehgodaaDoor
