/- complineref01: Text: for all amounts. -/
import Derived.Test.YtcclhblkchghbaaDoorMoneyRefText
import Derived.RegionTactic
import Derived.Deep.QuietTactic
namespace Go.Proofs.YtcclhblkchghbaaDoor
open Go.ChangeShapes Go.WideShapes Go.ChangeAt Go.RowKit
theorem padL_flat (u : Nat) : padL (Lib.decDigits u) = flat u := by
  unfold padL flat
  by_cases h1 : u < 10
  · rw [Lib.decDigits_one h1, if_pos (by simp), Nat.div_eq_of_lt (show u < 100 by omega), show u % 100 / 10 = 0 by omega, show u % 10 = u by omega, Lib.decDigits_one (show 0 < 10 by omega), Lib.decDigits_one h1]
    rfl
  · by_cases h2 : u < 100
    · rw [Lib.decDigits_two h1 h2, if_neg (by simp), if_pos (by simp), Nat.div_eq_of_lt h2, show u % 100 / 10 = u / 10 by omega, Lib.decDigits_one (show 0 < 10 by omega), Lib.decDigits_one (show u / 10 < 10 by omega), Lib.decDigits_one (show u % 10 < 10 by omega)]
      rfl
    · have e : Lib.decDigits u = Lib.decDigits (u / 100) ++ (Lib.decDigits (u % 100 / 10) ++ Lib.decDigits (u % 10)) := by
        rw [decDigits_step h1, decDigits_step (show ¬ u / 10 < 10 by omega), Lib.decDigits_one (show u % 100 / 10 < 10 by omega), Lib.decDigits_one (show u % 10 < 10 by omega), show u / 10 / 10 = u / 100 by omega, show u / 10 % 10 = u % 100 / 10 by omega]
        simp
      have h3 : 3 ≤ (Lib.decDigits u).length := by
        rw [Lib.decDigits_length, Lib.nDigits_big h1, Lib.nDigits_big (show ¬ u / 10 < 10 by omega)]
        have := Lib.nDigits_pos (u / 10 / 10)
        omega
      rw [if_neg (by omega), if_neg (by omega), e]
/-- How long the text in a value is. -/
def lenV (v : Value) : Nat := match v with
  | .string s => s.size
  | _ => 0
theorem padL_more {l : List UInt8} (h1 : 1 ≤ l.length) (h : l.length < 3) : padL (48 :: l) = padL l := by
  rcases l with _ | ⟨x, _ | ⟨y, _ | ⟨z, r⟩⟩⟩
  · simp at h1
  · rfl
  · rfl
  · simp at h; omega
theorem padL_done {l : List UInt8} (h : ¬ l.length < 3) : padL l = l := by
  unfold padL
  rw [if_neg (by omega), if_neg h]
theorem bytes_mid (A B : List UInt8) (hB : B.length = 2) :
    (⟨(A ++ B).toArray⟩ : ByteArray).extract 0 ((A ++ B).length - 2) ++ (⟨#[46]⟩ : ByteArray) ++ (⟨(A ++ B).toArray⟩ : ByteArray).extract ((A ++ B).length - 2) (A ++ B).length = ⟨(A ++ 46 :: B).toArray⟩ := by
  apply ByteArray.ext
  apply Array.toList_inj.mp
  simp [ByteArray.data_append, ByteArray.data_extract, hB]
  exact List.take_of_length_le (by omega)
theorem text_neg {a : Int} {n : Nat} (h : a < 0) (hT : textL a = signL a ++ (Lib.decDigits (n / 100) ++ 46 :: (Lib.decDigits (n % 100 / 10) ++ Lib.decDigits (n % 10)))) :
    Value.string ((⟨#[45]⟩ : ByteArray) ++ ((⟨(flat n).toArray⟩ : ByteArray).extract 0 ((flat n).length - 2) ++ (⟨#[46]⟩ : ByteArray) ++ (⟨(flat n).toArray⟩ : ByteArray).extract ((flat n).length - 2) (flat n).length)) = txt (textL a) := by
  unfold flat
  rw [bytes_mid _ _ (by rw [Lib.decDigits_one (show n % 100 / 10 < 10 by omega), Lib.decDigits_one (show n % 10 < 10 by omega)]; rfl), hT, signL, if_pos h]
  rfl
theorem text_pos {a : Int} {n : Nat} (h : ¬ a < 0) (hT : textL a = signL a ++ (Lib.decDigits (n / 100) ++ 46 :: (Lib.decDigits (n % 100 / 10) ++ Lib.decDigits (n % 10)))) :
    Value.string (((⟨(flat n).toArray⟩ : ByteArray).extract 0 ((flat n).length - 2) ++ (⟨#[46]⟩ : ByteArray) ++ (⟨(flat n).toArray⟩ : ByteArray).extract ((flat n).length - 2) (flat n).length)) = txt (textL a) := by
  unfold flat
  rw [bytes_mid _ _ (by rw [Lib.decDigits_one (show n % 100 / 10 < 10 by omega), Lib.decDigits_one (show n % 10 < 10 by omega)]; rfl), hT, signL, if_neg h]
  rfl
theorem below_drewN' {w w' : World} (h : Below w.heap.size w w') (n : Nat) : Below w.heap.size w (w'.drewN n) := ⟨h.1, h.2, h.3, h.4, h.5⟩
set_option maxHeartbeats 2000000 in
theorem reftext_any (a : Int) (ha : -9223372036854775808 ≤ a ∧ a ≤ 9223372036854775807) (w : World) :
    Calls Tryd.prog 22 #[.int .i64 a] w (Ret (txt (textL a)) w) := by
  have HS := Lib.hid (fun (w : World) => refsize_any a ha w)
  have HD := Lib.hid (fun (w : World) => refdigits_any a.natAbs (by omega) w)
  have hp := padL_flat a.natAbs
  have hlen := dd_len a.natAbs (by omega)
  have hlen1 : 1 ≤ (Lib.decDigits a.natAbs).length := by rw [Lib.decDigits_length]; exact Lib.nDigits_pos _
  have HT := Lib.hid (show textL a = signL a ++ (Lib.decDigits (a.natAbs / 100) ++ (46 :: (Lib.decDigits (a.natAbs % 100 / 10) ++ Lib.decDigits (a.natAbs % 10)))) from rfl)
  have HP := Lib.hid hp
  have HL := Lib.hid (And.intro hlen hlen1)
  generalize Lib.decDigits a.natAbs = d at *
  generalize a.natAbs = n at *
  clear hp ha hlen hlen1
  go_enter Tryd.func22, Tryd.ntmps22
  go_wp2_with fail
  refine (HS.out _).mono ?_
  rintro e w1 ⟨rfl, rfl⟩
  go_wp2_with fail
  refine (HD.out _).mono ?_
  rintro e w2 ⟨rfl, h2⟩
  have HB := Lib.hid h2
  clear h2
  unfold txt
  go_wp2_with fail
  go_loop [3] (fun sv => ∃ l : List UInt8, sv = .string ⟨l.toArray⟩ ∧ padL l = padL d ∧ 1 ≤ l.length ∧ l.length ≤ 20) (fun sv => 3 - lenV sv)
  case atStart => exact ⟨d, rfl, rfl, HL.out.2, HL.out.1⟩
  case round =>
    obtain ⟨l, rfl, hpad, hl1, hl2⟩ := hrel
    by_cases hs : l.length < 3
    · have h3 : (l.length : Int) < 3 := by omega
      have hadd : ∀ W, (Op.stringOp .add ⟨#[48]⟩ ⟨l.toArray⟩).run Tryd.prog W = .ok (.string ⟨(48 :: l).toArray⟩) W := fun W => run_string_add_lists (P := Tryd.prog) W [48] l (by simp) (by omega)
      have HPP := Lib.hid ((padL_more hl1 hs).trans hpad)
      clear hpad
      go_wp2_with fail
      go_round
      case rel => exact ⟨48 :: l, rfl, HPP.out, by simp, by simp; omega⟩
      case measure => simp [lenV, ByteArray.size]; omega
    · have h3 : ¬ (l.length : Int) < 3 := by omega
      have hfl : l = flat n := by rw [← padL_done hs, hpad, HP.out]
      have HF := Lib.hid hfl
      have l1 : (3 : Int) ≤ l.length := by omega
      have l2 : (l.length : Int) ≤ 20 := by omega
      clear hpad hl1 hl2 hs hfl
      go_wp2_with fail
      by_cases hneg : a < 0
      · go_quiet (fail)
        go_wp2
        go_ret
        exact ⟨by rw [← text_neg hneg HT.out, ← HF.out]; rfl, below_drewN' HB.out _⟩
      · go_quiet (fail)
        go_wp2
        go_ret
        exact ⟨by rw [← text_pos (by omega) HT.out, ← HF.out]; rfl, below_drewN' HB.out _⟩
end Go.Proofs.YtcclhblkchghbaaDoor
