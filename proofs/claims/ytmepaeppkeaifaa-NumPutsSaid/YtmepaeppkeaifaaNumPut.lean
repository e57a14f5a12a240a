/- Package num: Put, Text; the document's All, Text; the page's examples. -/
import Derived.Test.YtmepaeppkeaifaaNumAll
namespace Go.Proofs.Ytmepaeppkeaifaa
open Go.ChangeShapes Go.WideShapes Go.ChangeAt Go.RowKit
theorem put_any (n : Int) (hn : -9223372036854775808 ≤ n ∧ n ≤ 9223372036854775807) (w : World) :
    Calls Try.prog 29 #[.int .i64 n] w (Ret (txt (encN (codeN n))) w) := by
  have HA := Lib.hid (all_any (fun _ => n) 1 1 (some ⟨w.heap.size, 0, none⟩) (by decide) (fun _ _ => hn) (w.alloc (.cells #[.int .i64 n] 2)) (fun _ => ⟨_, _, rfl, by simp, fun i hi => by
    obtain rfl : i = 0 := by omega
    rw [World.cell?_alloc_new]
    rfl⟩))
  have e : encs (fun _ => n) 1 = encN (codeN n) := rfl
  rw [e] at HA
  clear hn e
  go_enter Try.func29, Try.ntmps29
  go_wp2_with fail
  refine HA.out.mono ?_
  rintro e w1 ⟨rfl, h1⟩
  unfold txt
  have HB : Hid (Below w.heap.size w w1) := ((Below.refl w.heap.size w).alloc (Nat.le_refl _) _).trans (h1.mono (by simp))
  clear h1
  go_wp2
  go_ret
  exact ⟨rfl, HB.out⟩
theorem lenI {s : ByteArray} (h : s.size ≤ 1000000) : -9223372036854775808 ≤ (s.size : Int) ∧ (s.size : Int) ≤ 9223372036854775807 := by omega
/-- The bytes of a text. -/
def txtL (l : List UInt8) : List UInt8 := encN (codeN (l.length : Int)) ++ l
theorem text_any (l : List UInt8) (hs : l.length ≤ 1000000) (w : World) :
    Calls Try.prog 25 #[.string ⟨l.toArray⟩] w (Ret (txt (txtL l)) w) := by
  have hb : -9223372036854775808 ≤ (l.length : Int) ∧ (l.length : Int) ≤ 9223372036854775807 := by omega
  have HP := Lib.hid (put_any _ hb w)
  have hadd : ∀ W, (Op.stringOp .add ⟨(encN (codeN (l.length : Int))).toArray⟩ ⟨l.toArray⟩).run Try.prog W = .ok (.string ⟨(txtL l).toArray⟩) W := fun W => run_string_add_lists (P := Try.prog) W _ l (by have := encN_len (codeN_lt hb); omega) (by omega)
  have hsz : ByteArray.size ⟨l.toArray⟩ = l.length := rfl
  unfold txt at *
  generalize encN (codeN (l.length : Int)) = x at *
  generalize txtL l = y at *
  clear hb hs
  go_enter Try.func25, Try.ntmps25
  go_wp2_with fail
  refine HP.out.mono ?_
  rintro e w1 ⟨rfl, h1⟩
  have HB := Lib.hid h1
  clear h1
  go_wp2
  go_ret
  exact ⟨rfl, HB.out⟩
theorem reftext_any (l : List UInt8) (hs : l.length ≤ 1000000) (w : World) :
    Calls Try.prog 26 #[.string ⟨l.toArray⟩] w (Ret (txt (txtL l)) w) := by
  have hb : -9223372036854775808 ≤ (l.length : Int) ∧ (l.length : Int) ≤ 9223372036854775807 := by omega
  have HP := Lib.hid (refput_any _ hb w)
  have hadd : ∀ W, (Op.stringOp .add ⟨(encN (codeN (l.length : Int))).toArray⟩ ⟨l.toArray⟩).run Try.prog W = .ok (.string ⟨(txtL l).toArray⟩) W := fun W => run_string_add_lists (P := Try.prog) W _ l (by have := encN_len (codeN_lt hb); omega) (by omega)
  have hsz : ByteArray.size ⟨l.toArray⟩ = l.length := rfl
  unfold txt at *
  generalize encN (codeN (l.length : Int)) = x at *
  generalize txtL l = y at *
  clear hb hs
  go_enter Try.func26, Try.ntmps26
  go_wp2_with fail
  refine HP.out.mono ?_
  rintro e w1 ⟨rfl, h1⟩
  have HB := Lib.hid h1
  clear h1
  go_wp2
  go_ret
  exact ⟨rfl, HB.out⟩
set_option maxHeartbeats 1000000 in
theorem refall_any (z : Nat → Int) (n cap : Nat) (ao : Option Addr) (hn : n ≤ 1000) (hz : ∀ i, i < n → -9223372036854775808 ≤ z i ∧ z i ≤ 9223372036854775807) (w : World) (h : IntsAt w ao n z) :
    Calls Try.prog 24 #[.slice ao n cap] w (Ret (txt (encs z n)) w) := by
  have HC := Lib.hid (fun k (hk : k < n) => refput_any (z k) (hz k hk))
  have HEL := Lib.hid (fun k (hk : k < n) => encN_len (codeN_lt (hz k hk)))
  have HLEN := Lib.hid (fun k (hk : k ≤ n) => encs_len hz k hk)
  have n2 : (n : Int) ≤ 1000 := by omega
  have HI := Lib.hid h
  clear h hz hn
  go_enter Try.func24, Try.ntmps24
  go_wp2_with fail
  go_loopw [3, 4] (fun sv iv wr => ∃ k : Nat, k ≤ n ∧ iv = .int .i64 k ∧ sv = .string ⟨(encs z k).toArray⟩ ∧ Below w.heap.size w wr) (fun _ iv _ => n - (intOf iv).toNat)
  case atStart => exact ⟨0, Nat.zero_le _, rfl, rfl, Below.refl _ _⟩
  case round =>
    obtain ⟨k, hk, rfl, rfl, hbel⟩ := hrel
    have hk2 : (k : Int) ≤ n := by omega
    by_cases hlt : k < n
    · have hlt2 : (k : Int) < n := by omega
      obtain ⟨b, off, rfl, hblt, hc⟩ := HI.out.below hbel (by omega)
      have hcell := hc k hlt
      have HCK := Lib.hid (HC.out k hlt)
      have HE : Hid (encs z (k + 1) = encs z k ++ encN (codeN (z k))) := rfl
      have hadd : ∀ W, (Op.stringOp .add ⟨(encs z k).toArray⟩ ⟨(encN (codeN (z k))).toArray⟩).run Try.prog W = .ok (.string ⟨(encs z (k + 1)).toArray⟩) W := fun W => run_string_add_lists (P := Try.prog) W _ _ (by have := HLEN.out k hk; omega) (by have := HEL.out k hlt; omega)
      have HKN := Lib.hid hlt
      have HB := Lib.hid hbel
      clear hc hbel hblt hlt
      unfold txt at *
      generalize encN (codeN (z k)) = x at *
      obtain ⟨y, hy⟩ : ∃ y, y = encs z (k + 1) := ⟨_, rfl⟩
      rw [← hy] at hadd
      have HY := Lib.hid hy
      obtain ⟨y0, hy0⟩ : ∃ y, y = encs z k := ⟨_, rfl⟩
      rw [← hy0] at hadd ⊢
      clear hy hy0
      go_wp2_with fail
      refine (HCK.out _).mono ?_
      rintro e w1 ⟨rfl, h1⟩
      have HB1 : Hid (Below w.heap.size w w1) := HB.out.trans (h1.mono HB.out.size)
      clear h1
      go_wp2_with fail
      go_roundw
      case rel => exact ⟨k + 1, by have := HKN.out; omega, by go_num, by rw [HY.out], HB1.out⟩
      case measure => have := HKN.out; simp [intOf]; omega
    · obtain rfl : k = n := by omega
      have HB := Lib.hid hbel
      clear hbel
      go_wp2_with fail
      go_ret
      exact ⟨rfl, HB.out⟩
end Go.Proofs.Ytmepaeppkeaifaa
