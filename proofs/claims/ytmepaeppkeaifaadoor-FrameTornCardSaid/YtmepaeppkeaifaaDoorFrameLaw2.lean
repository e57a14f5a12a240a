/- FramePuts, FrameReads, walked. -/
import Derived.Test.YtmepaeppkeaifaaDoorFrameLaw1
namespace Go.Proofs.YtmepaeppkeaifaaDoor
open Go.ChangeShapes Go.WideShapes Go.ChangeAt Go.RowKit
theorem puts_long (s t : ByteArray) (hs : s.size ≤ 9223372036854775807) (ht' : t.size ≤ 9223372036854775807) (hl : 1100 < s.size ∨ 100 < t.size) (w : World) (ht : Tab w) :
    Calls Tryd.prog 3 #[.string s, .string t] w (Ret (.bool true) w) := by
  have HA := Lib.hid (awake_any w ht)
  by_cases h1 : 1100 < s.size
  · have d1 : decide (1100 < (s.size : Int)) = true := decide_eq_true (by omega)
    have d2 := decide_eq_true h1
    clear hl hs h1 ht' ht
    go_enter Tryd.func3, Tryd.ntmps3
    go_wp2_with fail
    refine HA.out.mono ?_
    rintro e w1 ⟨rfl, h1⟩
    go_wp2
    go_ret
    exact ⟨rfl, h1⟩
  · have d1 : decide (1100 < (s.size : Int)) = false := decide_eq_false (by omega)
    have d2 := decide_eq_false h1
    have d3 : decide (100 < (t.size : Int)) = true := decide_eq_true (by omega)
    have d4 : decide (100 < t.size) = true := decide_eq_true (by omega)
    clear hl hs h1 ht' ht
    go_enter Tryd.func3, Tryd.ntmps3
    go_wp2_with fail
    refine HA.out.mono ?_
    rintro e w1 ⟨rfl, h1⟩
    go_wp2
    go_ret
    exact ⟨rfl, h1⟩
set_option maxHeartbeats 2000000 in
theorem puts_none (s t : ByteArray) (hs : s.size ≤ 1100) (ht' : t.size ≤ 100) (hl : 1024 < s.size) (w : World) (ht : Tab w) :
    Calls Tryd.prog 3 #[.string s, .string t] w (Ret (.bool true) w) := by
  have HA := Lib.hid (awake_any w ht)
  have HP := Lib.hid (put_long s (by omega) hl w)
  have HS := Lib.hid (fun W => size_any s (by omega) W)
  rw [if_pos hl] at HS
  have d1 : decide (1100 < (s.size : Int)) = false := decide_eq_false (by omega)
  have d2 : decide (1100 < s.size) = false := decide_eq_false (by omega)
  have d3 : decide (100 < (t.size : Int)) = false := decide_eq_false (by omega)
  have d4 : decide (100 < t.size) = false := decide_eq_false (by omega)
  have d5 : decide (1024 < (s.size : Int)) = true := decide_eq_true (by omega)
  have d6 : decide (1024 < s.size) = true := decide_eq_true (by omega)
  have s2 : (s.size : Int) ≤ 1100 := by omega
  have t2 : (t.size : Int) ≤ 100 := by omega
  clear hl hs ht' ht
  go_enter Tryd.func3, Tryd.ntmps3
  go_wp2_with fail
  refine HP.out.mono ?_
  rintro e w1 ⟨rfl, rfl⟩
  go_wp2_with fail
  refine HA.out.mono ?_
  rintro e w1 ⟨rfl, h1⟩
  go_wp2_with fail
  refine (HS.out _).mono ?_
  rintro e w2 ⟨rfl, rfl⟩
  go_wp2
  go_ret
  exact ⟨rfl, h1⟩
set_option maxHeartbeats 2000000 in
theorem puts_any (l m : List UInt8) (hl : l.length ≤ 1024) (hm : m.length ≤ 100) (w : World) (ht : Tab w) :
    Calls Tryd.prog 3 #[.string ⟨l.toArray⟩, .string ⟨m.toArray⟩] w (Ret (.bool true) w) := by
  have zl : ByteArray.size ⟨l.toArray⟩ = l.length := rfl
  have zm : ByteArray.size ⟨m.toArray⟩ = m.length := rfl
  have HA := Lib.hid (fun W hW => awake_any W hW)
  have HP := Lib.hid (put_any l hl w ht)
  have HRP := Lib.hid (fun W => refput_any l hl W)
  have HS := Lib.hid (fun W => size_any ⟨l.toArray⟩ (by rw [zl]; omega) W)
  rw [zl, if_neg (by omega), show 8 + l.length = (frameL l).length from (frameL_length l).symm] at HS
  have HN := Lib.hid (fun W hW => next_frame l m hl (by omega) W hW)
  have hadd : ∀ W, (Op.stringOp .add ⟨(frameL l).toArray⟩ ⟨m.toArray⟩).run Tryd.prog W = .ok (.string ⟨(frameL l ++ m).toArray⟩) W := fun W => run_string_add_lists (P := Tryd.prog) W _ _ (by rw [frameL_length]; omega) (by omega)
  have zf : ByteArray.size ⟨(frameL l).toArray⟩ = (frameL l).length := rfl
  have hfl : ((frameL l).length : Int) ≤ 1032 := by rw [frameL_length]; omega
  have d1 : decide (1100 < (l.length : Int)) = false := decide_eq_false (by omega)
  have d2 : decide (1100 < l.length) = false := decide_eq_false (by omega)
  have d3 : decide (100 < (m.length : Int)) = false := decide_eq_false (by omega)
  have d4 : decide (100 < m.length) = false := decide_eq_false (by omega)
  have d5 : decide (1024 < (l.length : Int)) = false := decide_eq_false (by omega)
  have d6 : decide (1024 < l.length) = false := decide_eq_false (by omega)
  have s2 : (l.length : Int) ≤ 1024 := by omega
  have t2 : (m.length : Int) ≤ 100 := by omega
  have HT := Lib.hid ht
  unfold txt at *
  generalize frameL l ++ m = fm at *
  generalize frameL l = fl at *
  clear hl hm ht
  go_enter Tryd.func3, Tryd.ntmps3
  go_wp2_with fail
  refine HP.out.mono ?_
  rintro e w1 ⟨rfl, h1⟩
  have T1 := Lib.hid (HT.out.next h1)
  have B1 := Lib.hid h1
  clear h1
  go_wp2_with fail
  refine (HN.out _ T1.out).mono ?_
  rintro e w2 ⟨rfl, h2⟩
  have T2 := Lib.hid (T1.out.next h2)
  have B2 : Hid (Below w.heap.size w w2) := B1.out.trans (h2.mono B1.out.size)
  clear h2 B1
  go_wp2_with fail
  refine (HA.out _ T2.out).mono ?_
  rintro e w3 ⟨rfl, h3⟩
  have B3 : Hid (Below w.heap.size w w3) := B2.out.trans (h3.mono B2.out.size)
  clear h3 B2
  go_wp2_with fail
  refine (HRP.out _).mono ?_
  rintro e w4 ⟨rfl, h4⟩
  have B4 : Hid (Below w.heap.size w w4) := B3.out.trans (h4.mono B3.out.size)
  clear h4 B3
  go_wp2_with fail
  refine (HS.out _).mono ?_
  rintro e w5 ⟨rfl, rfl⟩
  go_wp2
  go_ret
  exact ⟨rfl, B4.out⟩
theorem reads_long (s : ByteArray) (hs : s.size ≤ 9223372036854775807) (hl : 1500 < s.size) (w : World) (ht : Tab w) :
    Calls Tryd.prog 4 #[.string s] w (Ret (.bool true) w) := by
  have HA := Lib.hid (awake_any w ht)
  have d1 : decide (1500 < (s.size : Int)) = true := decide_eq_true (by omega)
  have d2 := decide_eq_true hl
  clear hl hs ht
  go_enter Tryd.func4, Tryd.ntmps4
  go_wp2_with fail
  refine HA.out.mono ?_
  rintro e w1 ⟨rfl, h1⟩
  go_wp2
  go_ret
  exact ⟨rfl, h1⟩
theorem nextV_form (s : ByteArray) (x : NextA) : ∃ (a b : ByteArray) (e : Int), nextV s x = .tuple #[.string a, .string b, .int .i64 e] := by
  cases x with
  | err e => exact ⟨_, _, _, rfl⟩
  | ok n => exact ⟨_, _, _, rfl⟩
theorem scanR_many : ∀ (f : Nat) (L : List UInt8), (scanR f L).1.length ≤ f
  | 0, _ => Nat.le_refl _
  | f + 1, L => by
    simp only [scanR]
    split
    · exact Nat.zero_le _
    · split
      · exact Nat.zero_le _
      · have := scanR_many f (L.drop (8 + by assumption))
        simp only [List.length_cons]
        omega
set_option maxHeartbeats 2000000 in
theorem reads_any (s : ByteArray) (hs : s.size ≤ 1500) (w : World) (ht : Tab w) :
    Calls Tryd.prog 4 #[.string s] w (Ret (.bool true) w) := by
  have HA := Lib.hid (fun W hW => awake_any W hW)
  have HN := Lib.hid (next_any s (by omega) w ht)
  have HRN := Lib.hid (fun W => refnext_any s (by omega) W)
  have HS := Lib.hid (fun W hW => scan_any s (by omega) W hW)
  have HRS := Lib.hid (fun W => refscan_any s (by omega) W)
  have hmany := scanR_many s.size s.data.toList
  obtain ⟨a, b, e0, hv⟩ := nextV_form s (nextR s.data.toList)
  rw [hv] at HN HRN
  obtain ⟨A, hA⟩ : ∃ A, scanR s.size s.data.toList = A := ⟨_, rfl⟩
  rw [hA] at HS HRS hmany
  obtain ⟨rs, u, e1⟩ := A
  have hn2 : rs.length ≤ 1000000 := by simp only [] at hmany; omega
  have HSAME := Lib.hid (fun ao bo cap cap' W h1 h2 => same_any rs.length cap cap' ao bo (fun i => ⟨(rs.getD i []).toArray⟩) hn2 W h1 h2)
  have d1 : decide (1500 < (s.size : Int)) = false := decide_eq_false (by omega)
  have d2 : decide (1500 < s.size) = false := decide_eq_false (by omega)
  have s2 : (s.size : Int) ≤ 1500 := by omega
  have HT := Lib.hid ht
  clear hv hA hmany hs ht
  go_enter Tryd.func4, Tryd.ntmps4
  go_wp2_with fail
  refine HN.out.mono ?_
  rintro e w1 ⟨rfl, h1⟩
  have T1 := Lib.hid (HT.out.next h1)
  have B1 := Lib.hid h1
  clear h1
  go_wp2_with fail
  refine (HRN.out _).mono ?_
  rintro e w2 ⟨rfl, h2⟩
  have T2 := Lib.hid (T1.out.next h2)
  have B2 : Hid (Below w.heap.size w w2) := B1.out.trans (h2.mono B1.out.size)
  clear h2 B1
  go_wp2_with fail
  refine (HS.out _ T2.out).mono ?_
  rintro e w3 ⟨h3, ao, cap, rfl, st1⟩
  have T3 := Lib.hid (T2.out.next h3)
  have B3 : Hid (Below w.heap.size w w3) := B2.out.trans (h3.mono B2.out.size)
  have ST1 := Lib.hid st1
  clear h3 B2 st1
  go_wp2_with fail
  refine (HRS.out _).mono ?_
  rintro e w4 ⟨h4, bo, cap', rfl, st2⟩
  have T4 := Lib.hid (T3.out.next h4)
  have B4 : Hid (Below w.heap.size w w4) := B3.out.trans (h4.mono B3.out.size)
  have ST2 := Lib.hid st2
  have ST3 := Lib.hid (ST1.out.below h4)
  clear h4 B3 st2 ST1
  go_wp2_with fail
  refine (HA.out _ T4.out).mono ?_
  rintro e w5 ⟨rfl, h5⟩
  have B5 : Hid (Below w.heap.size w w5) := B4.out.trans (h5.mono B4.out.size)
  have ST4 := Lib.hid (ST2.out.below h5)
  have ST5 := Lib.hid (ST3.out.below h5)
  clear h5 B4 ST2 ST3
  go_wp2_with fail
  refine (HSAME.out _ _ _ _ _ ST5.out ST4.out).mono ?_
  rintro e w6 ⟨rfl, h6⟩
  have B6 : Hid (Below w.heap.size w w6) := B5.out.trans (h6.mono B5.out.size)
  clear h6 B5
  go_wp2
  go_ret
  exact ⟨rfl, B6.out⟩
end Go.Proofs.YtmepaeppkeaifaaDoor
