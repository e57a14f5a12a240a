/- complineref01: Parse: for every text that begins with a minus. -/
import Derived.Test.YtcclhblkchghbaaDoorMoneyRefParse
namespace Go.Proofs.YtcclhblkchghbaaDoor
open Go.ChangeShapes Go.WideShapes Go.ChangeAt Go.RowKit
set_option maxRecDepth 100000 in
set_option maxHeartbeats 4000000 in
theorem refparse_neg (s : ByteArray) (hs : s.size ≤ 100) (tb : ByteArray) (hx : s.extract 1 s.size = tb) (hts : tb.size ≤ 100) (h0 : 0 < s.size) (hp : ((((s[0]'h0).toNat : Nat) : Int) == 45) = true) (w : World) :
    Calls Tryd.prog 23 #[.string s] w (Ret (refTail true s.data.toList tb.data.toList) w) := by
  have HT := Lib.hid (fun (m : Int) h (w : World) => reftext_any m h w)
  have hsz : (1 : Int) ≤ s.size := by omega
  all_goals
    have hz : (tb.size : Int) ≤ 100 := by omega
    have hlen : tb.data.toList.length = tb.size := by simp
    have HLEN := Lib.hid hlen
    have HR := Lib.hid (show refTail true s.data.toList tb.data.toList = match rp tb.size tb.data.toList 0 0 with | none => badV | some n => refEnd true s.data.toList n from by unfold refTail; rw [hlen]; try rfl)
    clear hs hlen
    go_enter Tryd.func23, Tryd.ntmps23
    go_wp2_with fail
    skip
    go_loop [6, 7] (fun nv iv => ∃ (i : Nat) (n : Int), iv = .int .i64 (i : Nat) ∧ nv = .int .i64 n ∧ i ≤ tb.size ∧ -9223372036854775808 ≤ n ∧ n ≤ 0 ∧ rp tb.size tb.data.toList 0 0 = rp tb.size (tb.data.toList.drop i) i n) (fun _ iv => tb.size - (intOf iv).toNat)
    case atStart => exact ⟨0, 0, rfl, rfl, Nat.zero_le _, by omega, by omega, by rw [List.drop_zero]⟩
    case round =>
      obtain ⟨i, n, rfl, rfl, hi, hn1, hn2, hrp⟩ := hrel
      by_cases hlt : i < tb.size
      · rcases Nat.eq_zero_or_pos tb.size with hz0 | hz0
        · exact absurd hlt (by omega)
        clear hz0
        rw [rp_step (by rw [HLEN.out]; exact hlt)] at hrp
        have e1 : tb.data.toList[i]'(by rw [HLEN.out]; exact hlt) = tb[i]'hlt := rfl
        rw [e1] at hrp
        have hc : (tb[i]'hlt).toNat < 256 := (tb[i]'hlt).toNat_lt
        have hlt2 : (i : Int) < tb.size := by omega
        generalize hcc : (tb[i]'hlt).toNat = c at *
        have HCC := Lib.hid hcc
        have HRP := Lib.hid hrp
        clear hrp
        by_cases hdot : c = 46 ∧ i + 3 = tb.size
        · obtain ⟨rfl, hat⟩ := hdot
          have hatb : ((i : Int) == (tb.size : Int) - 3) = true := by rw [beq_iff_eq]; omega
          have HRP2 := Lib.hid (HRP.out.trans (if_pos ⟨rfl, hat⟩))
          clear HRP
          go_wp2_with fail
          all_goals
            go_round
            case rel => exact ⟨i + 1, _, by go_num, rfl, by omega, by omega, by omega, HRP2.out⟩
            case measure => simp [intOf]; omega
        · have hrp2 := HRP.out.trans (if_neg hdot)
          have hor : ((c : Int) == 46) = false ∨ (((c : Int) == 46) = true ∧ ((i : Int) == (tb.size : Int) - 3) = false) := by
            by_cases hc46 : c = 46
            · refine Or.inr ⟨by rw [beq_iff_eq]; omega, ?_⟩
              rw [beq_eq_false_iff_ne]
              omega
            · exact Or.inl (by rw [beq_eq_false_iff_ne]; omega)
          clear HRP
          by_cases hbad : c < 48 ∨ 57 < c ∨ n < -922337203685477580 ∨ (n = -922337203685477580 ∧ 56 < c)
          · have HB : Hid (refTail true s.data.toList tb.data.toList = badV) := by
              show _ = _
              rw [HR.out, hrp2, if_pos hbad]
            clear hrp2 HR hdot
            rcases hor with hor | ⟨hor, hor2⟩
            all_goals
              rcases hbad with hbad | hbad | hbad | ⟨hbad, hbad2⟩
              all_goals
                go_wp2_with fail
                all_goals
                  go_ret2
                  exact ⟨by rw [HB.out]; rfl, Below.refl _ _⟩
          · have HRP2 := Lib.hid (hrp2.trans (if_neg hbad))
            have c1 : 48 ≤ c := by omega
            have c2 : c ≤ 57 := by omega
            have c3 : -922337203685477580 ≤ n := by omega
            have c4 : ((n == -922337203685477580) = true ∧ (c : Int) - 48 ≤ 8) ∨ (n == -922337203685477580) = false := by
              by_cases hn : n = -922337203685477580
              · exact Or.inl ⟨by rw [beq_iff_eq]; exact hn, by omega⟩
              · exact Or.inr (by rw [beq_eq_false_iff_ne]; exact hn)
            have hc0 : ((c : Int) == 46) = false := by rw [beq_eq_false_iff_ne]; omega
            have c5 : -9223372036854775808 ≤ n * 10 - ((c : Int) - 48) := by omega
            have c6 : n * 10 - ((c : Int) - 48) ≤ 0 := by omega
            clear hrp2 HR hdot hor hbad hc hn1
            rcases c4 with ⟨c4, c7⟩ | c4
            all_goals
              go_wp2_with fail
              all_goals
                go_round
                case rel => exact ⟨i + 1, _, by go_num, rfl, by omega, by omega, by omega, HRP2.out⟩
                case measure => simp [intOf]; omega
      · obtain rfl : i = tb.size := by omega
        have HE : Hid (refTail true s.data.toList tb.data.toList = refEnd true s.data.toList n) := by
          show _ = _
          rw [HR.out, hrp, List.drop_of_length_le (by rw [HLEN.out]; exact Nat.le_refl _)]
          rfl
        clear hrp HR hlt hi
        have HE : Hid (refTail true s.data.toList tb.data.toList = if textL n = s.data.toList then .tuple #[.int .i64 n, .int .i64 0] else badV) := HE.out.trans (if_neg (fun h => by cases h.1))
        have hrange : -9223372036854775808 ≤ n ∧ n ≤ 9223372036854775807 := by omega
        have HTM := Lib.hid (fun (w : World) => HT.out (n) hrange w)
        by_cases he : textL (n) = s.data.toList
        · have HF := Lib.hid (HE.out.trans (if_pos he))
          have hq : (textL (n) == s.toList) = true := by rw [ByteArray.toList_eq, he]; simp
          clear HE he HT hrange
          skip
          go_wp2_with fail
          refine (HTM.out _).mono ?_
          rintro e w1 ⟨rfl, h1⟩
          have H1 := Lib.hid h1
          clear h1
          unfold txt
          generalize textL (n) = tl at *
          go_wp2_with fail
          go_ret2
          exact ⟨by rw [HF.out]; rfl, H1.out⟩
        · have HF := Lib.hid (HE.out.trans (if_neg he))
          have hq : (textL (n) == s.toList) = false := by rw [ByteArray.toList_eq]; simpa using he
          clear HE he HT hrange
          skip
          go_wp2_with fail
          refine (HTM.out _).mono ?_
          rintro e w1 ⟨rfl, h1⟩
          have H1 := Lib.hid h1
          clear h1
          unfold txt
          generalize textL (n) = tl at *
          go_wp2_with fail
          go_ret2
          exact ⟨by rw [HF.out]; rfl, H1.out⟩
end Go.Proofs.YtcclhblkchghbaaDoor
