/- The document's layer 7: Put, All, Text. -/
import Derived.Test.YtbpaongnehgodaaNumRefGet
import Derived.Sort.Grow
import Derived.Laws.IdiomStrings
namespace Go.Proofs.Ytbpaongnehgodaa
open Go.ChangeShapes Go.WideShapes Go.ChangeAt Go.RowKit
/-- A text, as a value. -/
def txt (l : List UInt8) : Value := .string ⟨l.toArray⟩
/-- A byte, made a text. -/
theorem conv_one (d : Nat) (hd : d < 256) (v : Int) (hv : v = (d : Int)) (w : World) :
    (convert 62 9 (.slice (some ⟨w.heap.size, 0, none⟩) 1 1)).run Try.prog (w.alloc (.cells #[.int .u8 v] 5)) = .ok (txt [UInt8.ofNat d]) (w.alloc (.cells #[.int .u8 v] 5)) := by
  subst hv
  have h := run_convert_bytes_back (P := Try.prog) (w.alloc (.cells #[.int .u8 (d : Int)] 5)) 62 9 5 ⟨w.heap.size, 0, none⟩ 1 [UInt8.ofNat d] Try.underlying62 Try.underlying5 Try.underlying9 (fun j hj => by
    rw [add_plain, World.cell?_alloc_new]
    simp at hj
    subst hj
    show some (Value.int .u8 (d : Int)) = some (.int .u8 ((UInt8.ofNat d).toNat : Int))
    have : (UInt8.ofNat d).toNat = d := by simp; omega
    rw [this])
  exact h
set_option maxHeartbeats 1000000 in
theorem refput_any (n : Int) (hn : -9223372036854775808 ≤ n ∧ n ≤ 9223372036854775807) (w : World) :
    Calls Try.prog 32 #[.int .i64 n] w (Ret (txt (encN (codeN n))) w) := by
  have HC := Lib.hid (codeN_lt hn)
  have HL := Lib.hid (encN_len (codeN_lt hn))
  obtain ⟨n1, n2⟩ := hn
  obtain ⟨c, hc⟩ : ∃ c, codeN n = c := ⟨_, rfl⟩
  by_cases hneg : 0 ≤ n
  · have b := decide_eq_true hneg
    have b2 : decide (n < 0) = false := decide_eq_false (Int.not_lt.2 hneg)
    have e1 : IntKind.u64.wrap n = n := by rw [IntKind.wrap_u64]; omega
    have e2 : IntKind.u64.wrap (2 * n) = (c : Int) := by rw [← hc]; unfold codeN; rw [if_pos hneg, IntKind.wrap_u64]; omega
    rw [hc] at HC HL ⊢
    clear hneg hc n1 n2
    go_enter Try.func32, Try.ntmps32
    go_wp2_with fail
    go_loopw [3, 4] (fun zv sv wr => ∃ (z : Nat) (l : List UInt8), zv = .int .u64 z ∧ sv = .string ⟨l.toArray⟩ ∧ z < 18446744073709551616 ∧ encN c = l ++ encN z ∧ Below w.heap.size w wr) (fun zv _ _ => (intOf zv).toNat)
    case atStart => exact ⟨c, [], rfl, rfl, HC.out, rfl, Below.refl _ _⟩
    case round =>
      obtain ⟨z, l, rfl, rfl, hz, hl, hbel⟩ := hrel
      have hz2 : (z : Int) ≤ 18446744073709551615 := by omega
      have hlen : l.length ≤ 10 := by have := HL.out; rw [hl, List.length_append] at this; omega
      have HLEN := Lib.hid hlen
      have HB := Lib.hid hbel
      by_cases h7 : 127 < z
      · have d7 := decide_eq_true h7
        have d7' : decide (127 < (z : Int)) = true := by simp; omega
        have HH : Hid (encN c = (l ++ [UInt8.ofNat (128 + z % 128)]) ++ encN (z / 128)) := by
          show _ = _
          rw [hl, encN_more (by omega)]
          simp
        have hcv := conv_one (128 + z % 128) (by omega) (128 + (z : Int) % 128) (by omega) wr
        have hadd : ∀ W, (Op.stringOp .add ⟨l.toArray⟩ ⟨#[UInt8.ofNat (128 + z % 128)]⟩).run Try.prog W = .ok (.string ⟨(l ++ [UInt8.ofNat (128 + z % 128)]).toArray⟩) W := fun W => run_string_add_lists (P := Try.prog) W l [UInt8.ofNat (128 + z % 128)] (by omega) (by simp)
        have ew : IntKind.u8.wrap (128 + (z : Int) % 128) = 128 + (z : Int) % 128 := by simp only [IntKind.wrap, IntKind.bits, IntKind.signed]; simp; omega
        have HZ : Hid (z / 128 < z) := by show _ < _; omega
        have HZ2 : Hid (z / 128 < 18446744073709551616) := by show _ < _; omega
        have hq : IntKind.u64.wrap ((z : Int) / 128) = (z : Int) / 128 := by rw [IntKind.wrap_u64]; omega
        clear hz hl hlen hbel
        generalize UInt8.ofNat (128 + z % 128) = b8 at *
        unfold txt at hcv
        go_wp2_with fail
        go_roundw
        case rel => exact ⟨z / 128, l ++ [b8], by go_num, rfl, HZ2.out, HH.out, (HB.out.alloc HB.out.size _)⟩
        case measure => have := HZ.out; simp [intOf]; omega
      · have d7 := decide_eq_false h7
        have d7' : decide (127 < (z : Int)) = false := by simp; omega
        have HH : Hid (encN c = l ++ [UInt8.ofNat z]) := by
          show _ = _
          rw [hl, encN_one (by omega)]
        have hcv := conv_one z (by omega) (z : Int) rfl wr
        have hadd : ∀ W, (Op.stringOp .add ⟨l.toArray⟩ ⟨#[UInt8.ofNat z]⟩).run Try.prog W = .ok (.string ⟨(l ++ [UInt8.ofNat z]).toArray⟩) W := fun W => run_string_add_lists (P := Try.prog) W l [UInt8.ofNat z] (by omega) (by simp)
        have ew : IntKind.u8.wrap (z : Int) = z := by simp only [IntKind.wrap, IntKind.bits, IntKind.signed]; simp; omega
        clear hz hl hlen hbel
        generalize UInt8.ofNat z = b8 at *
        unfold txt at hcv ⊢
        go_wp2_with fail
        go_ret
        exact ⟨by rw [HH.out]; rfl, HB.out.alloc HB.out.size _⟩
  · have b := decide_eq_false hneg
    have b2 : decide (n < 0) = true := decide_eq_true (Int.not_le.1 hneg)
    have e1 : IntKind.u64.wrap (-(n + 1)) = -(n + 1) := by rw [IntKind.wrap_u64]; omega
    have e2 : IntKind.u64.wrap (IntKind.u64.wrap (2 * -(n + 1)) + 1) = (c : Int) := by rw [← hc]; unfold codeN; rw [if_neg hneg, IntKind.wrap_u64, IntKind.wrap_u64]; omega
    have e3 : IntKind.i64.wrap (n + 1) = n + 1 := by rw [IntKind.wrap_i64]; omega
    have e4 : IntKind.i64.wrap (-(n + 1)) = -(n + 1) := by rw [IntKind.wrap_i64]; omega
    rw [hc] at HC HL ⊢
    clear hneg hc
    go_enter Try.func32, Try.ntmps32
    go_wp2_with fail
    go_loopw [3, 4] (fun zv sv wr => ∃ (z : Nat) (l : List UInt8), zv = .int .u64 z ∧ sv = .string ⟨l.toArray⟩ ∧ z < 18446744073709551616 ∧ encN c = l ++ encN z ∧ Below w.heap.size w wr) (fun zv _ _ => (intOf zv).toNat)
    case atStart => exact ⟨c, [], rfl, rfl, HC.out, rfl, Below.refl _ _⟩
    case round =>
      obtain ⟨z, l, rfl, rfl, hz, hl, hbel⟩ := hrel
      have hz2 : (z : Int) ≤ 18446744073709551615 := by omega
      have hlen : l.length ≤ 10 := by have := HL.out; rw [hl, List.length_append] at this; omega
      have HLEN := Lib.hid hlen
      have HB := Lib.hid hbel
      by_cases h7 : 127 < z
      · have d7 := decide_eq_true h7
        have d7' : decide (127 < (z : Int)) = true := by simp; omega
        have HH : Hid (encN c = (l ++ [UInt8.ofNat (128 + z % 128)]) ++ encN (z / 128)) := by
          show _ = _
          rw [hl, encN_more (by omega)]
          simp
        have hcv := conv_one (128 + z % 128) (by omega) (128 + (z : Int) % 128) (by omega) wr
        have hadd : ∀ W, (Op.stringOp .add ⟨l.toArray⟩ ⟨#[UInt8.ofNat (128 + z % 128)]⟩).run Try.prog W = .ok (.string ⟨(l ++ [UInt8.ofNat (128 + z % 128)]).toArray⟩) W := fun W => run_string_add_lists (P := Try.prog) W l [UInt8.ofNat (128 + z % 128)] (by omega) (by simp)
        have ew : IntKind.u8.wrap (128 + (z : Int) % 128) = 128 + (z : Int) % 128 := by simp only [IntKind.wrap, IntKind.bits, IntKind.signed]; simp; omega
        have HZ : Hid (z / 128 < z) := by show _ < _; omega
        have HZ2 : Hid (z / 128 < 18446744073709551616) := by show _ < _; omega
        have hq : IntKind.u64.wrap ((z : Int) / 128) = (z : Int) / 128 := by rw [IntKind.wrap_u64]; omega
        clear hz hl hlen hbel
        generalize UInt8.ofNat (128 + z % 128) = b8 at *
        unfold txt at hcv
        go_wp2_with fail
        go_roundw
        case rel => exact ⟨z / 128, l ++ [b8], by go_num, rfl, HZ2.out, HH.out, (HB.out.alloc HB.out.size _)⟩
        case measure => have := HZ.out; simp [intOf]; omega
      · have d7 := decide_eq_false h7
        have d7' : decide (127 < (z : Int)) = false := by simp; omega
        have HH : Hid (encN c = l ++ [UInt8.ofNat z]) := by
          show _ = _
          rw [hl, encN_one (by omega)]
        have hcv := conv_one z (by omega) (z : Int) rfl wr
        have hadd : ∀ W, (Op.stringOp .add ⟨l.toArray⟩ ⟨#[UInt8.ofNat z]⟩).run Try.prog W = .ok (.string ⟨(l ++ [UInt8.ofNat z]).toArray⟩) W := fun W => run_string_add_lists (P := Try.prog) W l [UInt8.ofNat z] (by omega) (by simp)
        have ew : IntKind.u8.wrap (z : Int) = z := by simp only [IntKind.wrap, IntKind.bits, IntKind.signed]; simp; omega
        clear hz hl hlen hbel
        generalize UInt8.ofNat z = b8 at *
        unfold txt at hcv ⊢
        go_wp2_with fail
        go_ret
        exact ⟨by rw [HH.out]; rfl, HB.out.alloc HB.out.size _⟩
end Go.Proofs.Ytbpaongnehgodaa
