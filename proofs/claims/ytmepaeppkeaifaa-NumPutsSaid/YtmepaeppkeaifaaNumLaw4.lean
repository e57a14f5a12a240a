/- NumPuts, walked. -/
import Derived.Test.YtmepaeppkeaifaaNumLaw3
namespace Go.Proofs.Ytmepaeppkeaifaa
open Go.ChangeShapes Go.WideShapes Go.ChangeAt Go.RowKit
theorem extract_drop (L : List UInt8) (m : Nat) : (⟨L.toArray⟩ : ByteArray).extract m (ByteArray.size ⟨L.toArray⟩) = ⟨(L.drop m).toArray⟩ := by
  apply ByteArray.ext
  apply Array.ext'
  rw [ByteArray.data_extract]
  have e : ByteArray.size ⟨L.toArray⟩ = L.length := rfl
  rw [e]
  simp
  exact List.take_of_length_le (by simp)
theorem get_put (x : Int) (hx : -9223372036854775808 ≤ x ∧ x ≤ 9223372036854775807) (R : List UInt8) : getR 0 (encN (codeN x) ++ R) = .ok (codeN x) (encN (codeN x)).length :=
  getR_enc R 0 (codeN x) (by decide) (by have := codeN_lt hx; omega) (fun h => by omega)
theorem readV_put (may : Int → ByteArray → Int) (x : Int) (hx : -9223372036854775808 ≤ x ∧ x ≤ 9223372036854775807) (R : List UInt8) (hm : may x ⟨R.toArray⟩ = 0) : readV may ⟨(encN (codeN x) ++ R).toArray⟩ 0 = (x, ⟨R.toArray⟩, 0) := by
  unfold readV
  rw [if_neg (by simp)]
  have e : (⟨(encN (codeN x) ++ R).toArray⟩ : ByteArray).data.toList = encN (codeN x) ++ R := rfl
  rw [e, get_put x hx]
  simp only []
  rw [extract_drop, numN_code]
  have e2 : (encN (codeN x) ++ R).drop (encN (codeN x)).length = R := by simp
  rw [e2, if_pos hm]
theorem textV_put (l R : List UInt8) (hl : l.length ≤ 200) : textV 200 ⟨(txtL l ++ R).toArray⟩ 0 = (⟨l.toArray⟩, ⟨R.toArray⟩, 0) := by
  have hx : -9223372036854775808 ≤ (l.length : Int) ∧ (l.length : Int) ≤ 9223372036854775807 := by omega
  have hsz : ByteArray.size ⟨(l ++ R).toArray⟩ = l.length + R.length := by
    show (l ++ R).toArray.size = _
    simp
  have hr : readV (textM 200) ⟨(txtL l ++ R).toArray⟩ 0 = ((l.length : Int), ⟨(l ++ R).toArray⟩, 0) := by
    have h := readV_put (textM 200) (l.length : Int) hx (l ++ R) (by
      have hu : uptoM 200 (l.length : Int) = 0 := by unfold uptoM; rw [if_neg (by omega)]
      unfold textM
      rw [if_pos hu, if_neg (by rw [hsz]; omega)])
    have e : txtL l ++ R = encN (codeN (l.length : Int)) ++ (l ++ R) := by unfold txtL; rw [List.append_assoc]
    rw [e]
    exact h
  unfold textV
  rw [hr]
  simp only []
  by_cases h0 : l = []
  · subst h0
    rw [if_pos (by rfl)]
    rfl
  · have : 0 < l.length := List.length_pos_iff.2 h0
    rw [if_neg (by omega), Int.toNat_natCast, extract_drop]
    have e2 : (l ++ R).drop l.length = R := by simp
    rw [e2]
    refine Prod.ext ?_ rfl
    show (⟨(l ++ R).toArray⟩ : ByteArray).extract 0 l.length = _
    apply ByteArray.ext
    apply Array.ext'
    rw [ByteArray.data_extract]
    simp
theorem encs_pre (z : Nat → Int) (n : Nat) : ∀ i, i ≤ n → ∃ X, encs z n = encs z i ++ X := by
  intro i hi
  induction n with
  | zero => obtain rfl : i = 0 := by omega
            exact ⟨[], by simp⟩
  | succ n ih =>
    by_cases h : i = n + 1
    · subst h
      exact ⟨[], by simp⟩
    · obtain ⟨X, hX⟩ := ih (by omega)
      exact ⟨X ++ encN (codeN (z n)), by simp only [encs, hX, List.append_assoc]⟩
/-- What is behind the first i numbers. -/
def tailL (z : Nat → Int) (n i : Nat) (R : List UInt8) : List UInt8 := (encs z n ++ R).drop (encs z i).length
theorem tailL_step (z : Nat → Int) (n i : Nat) (R : List UInt8) (hi : i < n) : tailL z n i R = encN (codeN (z i)) ++ tailL z n (i + 1) R := by
  obtain ⟨X, hX⟩ := encs_pre z n (i + 1) (by omega)
  unfold tailL
  rw [hX]
  simp only [encs, List.append_assoc, List.length_append]
  rw [List.drop_append_of_le_length (by simp), ← List.drop_drop]
  simp
theorem tailL_end (z : Nat → Int) (n : Nat) (R : List UInt8) : tailL z n n R = R := by
  unfold tailL
  simp
theorem tailL_start (z : Nat → Int) (n : Nat) (R : List UInt8) : tailL z n 0 R = encs z n ++ R := rfl
theorem puts_long (ao : Option Addr) (n cap : Nat) (s t : ByteArray) (hn : n ≤ 9223372036854775807) (hs : s.size ≤ 9223372036854775807) (ht : t.size ≤ 9223372036854775807) (hl : 20 < n ∨ 200 < s.size ∨ 200 < t.size) (w : World) :
    Calls Try.prog 5 #[.slice ao n cap, .string s, .string t] w (Ret (.bool true) w) := by
  have HA := Lib.hid (awake_any w)
  by_cases h1 : 20 < n
  · have d1 : decide (20 < (n : Int)) = true := decide_eq_true (by omega)
    have d2 := decide_eq_true h1
    clear hl hs h1 hn ht
    go_enter Try.func5, Try.ntmps5
    go_wp2_with fail
    refine HA.out.mono ?_
    rintro e w1 ⟨rfl, h1⟩
    go_wp2
    go_ret
    exact ⟨rfl, h1⟩
  · have d1 : decide (20 < (n : Int)) = false := decide_eq_false (by omega)
    have d2 := decide_eq_false h1
    by_cases h2 : 200 < s.size
    · have d3 : decide (200 < (s.size : Int)) = true := decide_eq_true (by omega)
      have d4 := decide_eq_true h2
      clear hl hs h1 hn ht h2
      go_enter Try.func5, Try.ntmps5
      go_wp2_with fail
      refine HA.out.mono ?_
      rintro e w1 ⟨rfl, h1⟩
      go_wp2
      go_ret
      exact ⟨rfl, h1⟩
    · have d3 : decide (200 < (s.size : Int)) = false := decide_eq_false (by omega)
      have d4 := decide_eq_false h2
      have d5 : decide (200 < (t.size : Int)) = true := decide_eq_true (by omega)
      have d6 : decide (200 < t.size) = true := decide_eq_true (by omega)
      clear hl hs h1 hn ht h2
      go_enter Try.func5, Try.ntmps5
      go_wp2_with fail
      refine HA.out.mono ?_
      rintro e w1 ⟨rfl, h1⟩
      go_wp2
      go_ret
      exact ⟨rfl, h1⟩
end Go.Proofs.Ytmepaeppkeaifaa
