/- complineref01: Parse: for every text. -/
import Derived.Test.YtcclhblkchghbaaDoorMoneyRefText2
namespace Go.Proofs.YtcclhblkchghbaaDoor
open Go.ChangeShapes Go.WideShapes Go.ChangeAt Go.RowKit
/-- The number of digits, below 0, a dot passed over at its place; or that they are none. -/
def rp (len : Nat) : List UInt8 → Nat → Int → Option Int
  | [], _, n => some n
  | c :: r, i, n =>
    if c.toNat = 46 ∧ i + 3 = len then rp len r (i + 1) n
    else if c.toNat < 48 ∨ 57 < c.toNat ∨ n < -922337203685477580 ∨ (n = -922337203685477580 ∧ 56 < c.toNat) then none
    else rp len r (i + 1) (n * 10 - ((c.toNat : Int) - 48))
def badV : Value := .tuple #[.int .i64 0, .int .i64 3]
/-- What becomes of it, at the end. -/
noncomputable def refEnd (neg : Bool) (l : List UInt8) (n : Int) : Value :=
  if neg = false ∧ n = -9223372036854775808 then badV
  else if textL (if neg then n else -n) = l then .tuple #[.int .i64 (if neg then n else -n), .int .i64 0] else badV
noncomputable def refTail (neg : Bool) (l t : List UInt8) : Value :=
  match rp t.length t 0 0 with
  | none => badV
  | some n => refEnd neg l n
noncomputable def refPV (l : List UInt8) : Value :=
  match l with
  | c :: r => if c.toNat = 45 then refTail true l r else refTail false l l
  | [] => refTail false l l
theorem rp_step {len : Nat} {t : List UInt8} {i : Nat} (h : i < t.length) (n : Int) : rp len (t.drop i) i n =
    if (t[i]).toNat = 46 ∧ i + 3 = len then rp len (t.drop (i + 1)) (i + 1) n
    else if (t[i]).toNat < 48 ∨ 57 < (t[i]).toNat ∨ n < -922337203685477580 ∨ (n = -922337203685477580 ∧ 56 < (t[i]).toNat) then none
    else rp len (t.drop (i + 1)) (i + 1) (n * 10 - (((t[i]).toNat : Int) - 48)) := by
  rw [List.drop_eq_getElem_cons h, rp]
set_option maxRecDepth 100000 in
set_option maxHeartbeats 4000000 in
theorem refparse_pos (s : ByteArray) (hs : s.size ≤ 100) (hp : s.size = 0 ∨ ∃ h : 0 < s.size, ((((s[0]'h).toNat : Nat) : Int) == 45) = false) (w : World) :
    Calls Tryd.prog 23 #[.string s] w (Ret (refTail false s.data.toList s.data.toList) w) := by
  have HT := Lib.hid (fun (m : Int) h (w : World) => reftext_any m h w)
  obtain ⟨q0, q1, q2⟩ : True ∧ True ∧ True := ⟨trivial, trivial, trivial⟩
  rcases hp with hp | ⟨h0, hp⟩
  all_goals
    have hz : (s.size : Int) ≤ 100 := by omega
    have hlen : s.data.toList.length = s.size := by simp
    have HLEN := Lib.hid hlen
    have HR := Lib.hid (show refTail false s.data.toList s.data.toList = match rp s.size s.data.toList 0 0 with | none => badV | some n => refEnd false s.data.toList n from by unfold refTail; rw [hlen]; try rfl)
    clear hs hlen
    go_enter Tryd.func23, Tryd.ntmps23
    go_wp2_with fail
    skip
    go_loop [6, 7] (fun nv iv => ∃ (i : Nat) (n : Int), iv = .int .i64 (i : Nat) ∧ nv = .int .i64 n ∧ i ≤ s.size ∧ -9223372036854775808 ≤ n ∧ n ≤ 0 ∧ rp s.size s.data.toList 0 0 = rp s.size (s.data.toList.drop i) i n) (fun _ iv => s.size - (intOf iv).toNat)
    case atStart => exact ⟨0, 0, rfl, rfl, Nat.zero_le _, by omega, by omega, by rw [List.drop_zero]⟩
    case round =>
      obtain ⟨i, n, rfl, rfl, hi, hn1, hn2, hrp⟩ := hrel
      by_cases hlt : i < s.size
      · rcases Nat.eq_zero_or_pos s.size with hz0 | hz0
        · exact absurd hlt (by omega)
        clear hz0
        rw [rp_step (by rw [HLEN.out]; exact hlt)] at hrp
        have e1 : s.data.toList[i]'(by rw [HLEN.out]; exact hlt) = s[i]'hlt := rfl
        rw [e1] at hrp
        have hc : (s[i]'hlt).toNat < 256 := (s[i]'hlt).toNat_lt
        have hlt2 : (i : Int) < s.size := by omega
        generalize hcc : (s[i]'hlt).toNat = c at *
        have HCC := Lib.hid hcc
        have HRP := Lib.hid hrp
        clear hrp
        by_cases hdot : c = 46 ∧ i + 3 = s.size
        · obtain ⟨rfl, hat⟩ := hdot
          have hatb : ((i : Int) == (s.size : Int) - 3) = true := by rw [beq_iff_eq]; omega
          have HRP2 := Lib.hid (HRP.out.trans (if_pos ⟨rfl, hat⟩))
          clear HRP
          go_wp2_with fail
          all_goals
            go_round
            case rel => exact ⟨i + 1, _, by go_num, rfl, by omega, by omega, by omega, HRP2.out⟩
            case measure => simp [intOf]; omega
        · have hrp2 := HRP.out.trans (if_neg hdot)
          have hor : ((c : Int) == 46) = false ∨ (((c : Int) == 46) = true ∧ ((i : Int) == (s.size : Int) - 3) = false) := by
            by_cases hc46 : c = 46
            · refine Or.inr ⟨by rw [beq_iff_eq]; omega, ?_⟩
              rw [beq_eq_false_iff_ne]
              omega
            · exact Or.inl (by rw [beq_eq_false_iff_ne]; omega)
          clear HRP
          by_cases hbad : c < 48 ∨ 57 < c ∨ n < -922337203685477580 ∨ (n = -922337203685477580 ∧ 56 < c)
          · have HB : Hid (refTail false s.data.toList s.data.toList = badV) := by
              show _ = _
              rw [HR.out, hrp2, if_pos hbad]
            clear hrp2 HR hdot
            rcases hor with hor | ⟨hor, hor2⟩
            all_goals
              rcases hbad with hbad | hbad | hbad | ⟨hbad, hbad2⟩
              all_goals
                go_wp2_with fail
                all_goals
                  go_ret2
                  exact ⟨by rw [HB.out]; rfl, Below.refl _ _⟩
          · have HRP2 := Lib.hid (hrp2.trans (if_neg hbad))
            have c1 : 48 ≤ c := by omega
            have c2 : c ≤ 57 := by omega
            have c3 : -922337203685477580 ≤ n := by omega
            have c4 : ((n == -922337203685477580) = true ∧ (c : Int) - 48 ≤ 8) ∨ (n == -922337203685477580) = false := by
              by_cases hn : n = -922337203685477580
              · exact Or.inl ⟨by rw [beq_iff_eq]; exact hn, by omega⟩
              · exact Or.inr (by rw [beq_eq_false_iff_ne]; exact hn)
            have hc0 : ((c : Int) == 46) = false := by rw [beq_eq_false_iff_ne]; omega
            have c5 : -9223372036854775808 ≤ n * 10 - ((c : Int) - 48) := by omega
            have c6 : n * 10 - ((c : Int) - 48) ≤ 0 := by omega
            clear hrp2 HR hdot hor hbad hc hn1
            rcases c4 with ⟨c4, c7⟩ | c4
            all_goals
              go_wp2_with fail
              all_goals
                go_round
                case rel => exact ⟨i + 1, _, by go_num, rfl, by omega, by omega, by omega, HRP2.out⟩
                case measure => simp [intOf]; omega
      · obtain rfl : i = s.size := by omega
        have HE : Hid (refTail false s.data.toList s.data.toList = refEnd false s.data.toList n) := by
          show _ = _
          rw [HR.out, hrp, List.drop_of_length_le (by rw [HLEN.out]; exact Nat.le_refl _)]
          rfl
        clear hrp HR hlt hi
        by_cases hmin : n = -9223372036854775808
        · have HF : Hid (refTail false s.data.toList s.data.toList = badV) := HE.out.trans (if_pos ⟨rfl, hmin⟩)
          have hq : (n == -9223372036854775808) = true := by rw [beq_iff_eq]; exact hmin
          clear HE HT hn1 hn2 hmin
          go_wp2_with fail
          go_ret2
          exact ⟨by rw [HF.out]; rfl, Below.refl _ _⟩
        have hqm : (n == -9223372036854775808) = false := by rw [beq_eq_false_iff_ne]; exact hmin
        have HE : Hid (refTail false s.data.toList s.data.toList = if textL (-n) = s.data.toList then .tuple #[.int .i64 (-n), .int .i64 0] else badV) := HE.out.trans (if_neg (fun h => hmin h.2))
        have n3 : -9223372036854775807 ≤ n := by omega
        clear hn1 hmin
        have hrange : -9223372036854775808 ≤ -n ∧ -n ≤ 9223372036854775807 := by omega
        have HTM := Lib.hid (fun (w : World) => HT.out (-n) hrange w)
        by_cases he : textL (-n) = s.data.toList
        · have HF := Lib.hid (HE.out.trans (if_pos he))
          have hq : (textL (-n) == s.toList) = true := by rw [ByteArray.toList_eq, he]; simp
          clear HE he HT hrange
          skip
          go_wp2_with fail
          refine (HTM.out _).mono ?_
          rintro e w1 ⟨rfl, h1⟩
          have H1 := Lib.hid h1
          clear h1
          unfold txt
          generalize textL (-n) = tl at *
          go_wp2_with fail
          go_ret2
          exact ⟨by rw [HF.out]; rfl, H1.out⟩
        · have HF := Lib.hid (HE.out.trans (if_neg he))
          have hq : (textL (-n) == s.toList) = false := by rw [ByteArray.toList_eq]; simpa using he
          clear HE he HT hrange
          skip
          go_wp2_with fail
          refine (HTM.out _).mono ?_
          rintro e w1 ⟨rfl, h1⟩
          have H1 := Lib.hid h1
          clear h1
          unfold txt
          generalize textL (-n) = tl at *
          go_wp2_with fail
          go_ret2
          exact ⟨by rw [HF.out]; rfl, H1.out⟩
end Go.Proofs.YtcclhblkchghbaaDoor
