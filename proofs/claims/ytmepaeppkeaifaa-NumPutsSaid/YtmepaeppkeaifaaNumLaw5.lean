/- NumPuts, walked: what is put is read. -/
import Derived.Test.YtmepaeppkeaifaaNumLaw4
namespace Go.Proofs.Ytmepaeppkeaifaa
open Go.ChangeShapes Go.WideShapes Go.ChangeAt Go.RowKit
set_option maxHeartbeats 4000000 in
set_option maxRecDepth 100000 in
theorem puts_any (z : Nat → Int) (n cap : Nat) (ao : Option Addr) (hn : n ≤ 20) (hz : ∀ i, i < n → -9223372036854775808 ≤ z i ∧ z i ≤ 9223372036854775807) (l m : List UInt8) (hl : l.length ≤ 200) (hm : m.length ≤ 200) (w : World) (h : IntsAt w ao n z) :
    Calls Try.prog 5 #[.slice ao n cap, .string ⟨l.toArray⟩, .string ⟨m.toArray⟩] w (Ret (.bool true) w) := by
  have HA := Lib.hid awake_any
  have n2 : (n : Int) ≤ 20 := by omega
  have d1 : decide (20 < (n : Int)) = false := decide_eq_false (by omega)
  have d2 : decide (20 < n) = false := decide_eq_false (by omega)
  have zl : ByteArray.size ⟨l.toArray⟩ = l.length := rfl
  have zm : ByteArray.size ⟨m.toArray⟩ = m.length := rfl
  have d3 : decide (200 < (l.length : Int)) = false := decide_eq_false (by omega)
  have d4 : decide (200 < l.length) = false := decide_eq_false (by omega)
  have d5 : decide (200 < (m.length : Int)) = false := decide_eq_false (by omega)
  have d6 : decide (200 < m.length) = false := decide_eq_false (by omega)
  have l2 : (l.length : Int) ≤ 200 := by omega
  have m2 : (m.length : Int) ≤ 200 := by omega
  have hb : -9223372036854775808 ≤ (l.length : Int) ∧ (l.length : Int) ≤ 9223372036854775807 := by omega
  have hE := encs_len hz n (Nat.le_refl n)
  have hT : (txtL l).length ≤ 210 := by unfold txtL; rw [List.length_append]; have := encN_len (codeN_lt hb); omega
  have HALL := Lib.hid (fun W hW => all_any z n cap ao (by omega) hz W hW)
  have HRALL := Lib.hid (fun W hW => refall_any z n cap ao (by omega) hz W hW)
  have HTX := Lib.hid (fun W => text_any l (by omega) W)
  have HRTX := Lib.hid (fun W => reftext_any l (by omega) W)
  have HNEW := Lib.hid (fun W => new_any ⟨(encs z n ++ txtL l ++ m).toArray⟩ W)
  have hadd1 : ∀ W, (Op.stringOp .add ⟨(encs z n).toArray⟩ ⟨(txtL l).toArray⟩).run Try.prog W = .ok (.string ⟨(encs z n ++ txtL l).toArray⟩) W := fun W => run_string_add_lists (P := Try.prog) W _ _ (by omega) (by omega)
  have hadd2 : ∀ W, (Op.stringOp .add ⟨(encs z n ++ txtL l).toArray⟩ ⟨m.toArray⟩).run Try.prog W = .ok (.string ⟨(encs z n ++ txtL l ++ m).toArray⟩) W := fun W => run_string_add_lists (P := Try.prog) W _ _ (by rw [List.length_append]; omega) (by omega)
  have HPUT := Lib.hid (fun i (hi : i < n) W => put_any (z i) (hz i hi) W)
  have HZ := Lib.hid hz
  have HI := Lib.hid h
  have hall : encs z n ++ txtL l ++ m = tailL z n 0 (txtL l ++ m) := by rw [tailL_start, List.append_assoc]
  have HTL : Hid (∀ i, i ≤ n → (tailL z n i (txtL l ++ m)).length ≤ 1000) := fun i hi => by
    unfold tailL
    rw [List.length_drop, List.length_append, List.length_append]
    omega
  have HSTEP := Lib.hid (fun i (hi : i < n) => tailL_step z n i (txtL l ++ m) hi)
  have HEND := Lib.hid (tailL_end z n (txtL l ++ m))
  have HTV := Lib.hid (textV_put l m hl)
  have HZM := Lib.hid zm
  clear hE hT hb h hz hn
  unfold txt at *
  obtain ⟨T, hT⟩ : ∃ T, txtL l ++ m = T := ⟨_, rfl⟩
  rw [hT] at hall HTL HSTEP HEND
  have HTT := Lib.hid hT
  rw [hall] at hadd2 HNEW
  obtain ⟨TX, hTX⟩ : ∃ TX, txtL l = TX := ⟨_, rfl⟩
  rw [hTX] at HTX HRTX hadd1 hadd2
  obtain ⟨E, hEE⟩ : ∃ E, encs z n = E := ⟨_, rfl⟩
  rw [hEE] at HALL HRALL hadd1 hadd2
  generalize E ++ TX = ET at *
  clear hall hT hEE hTX
  go_enter Try.func5, Try.ntmps5
  go_wp2_with fail
  refine (HALL.out _ HI.out).mono ?_
  rintro e w1 ⟨rfl, b1⟩
  have B1 := Lib.hid b1
  clear b1
  go_wp2_with fail
  refine (HRALL.out _ (HI.out.below B1.out)).mono ?_
  rintro e w2 ⟨rfl, b2⟩
  have B2 : Hid (Below w.heap.size w w2) := B1.out.trans (b2.mono B1.out.size)
  clear b2 B1
  go_wp2_with fail
  refine (HTX.out _).mono ?_
  rintro e w3 ⟨rfl, b3⟩
  have B3 : Hid (Below w.heap.size w w3) := B2.out.trans (b3.mono B2.out.size)
  clear b3 B2
  go_wp2_with fail
  refine (HRTX.out _).mono ?_
  rintro e w4 ⟨rfl, b4⟩
  have B4 : Hid (Below w.heap.size w w4) := B3.out.trans (b4.mono B3.out.size)
  clear b4 B3
  go_wp2_with fail
  refine (HTX.out _).mono ?_
  rintro e w5 ⟨rfl, b5⟩
  have B5 : Hid (Below w.heap.size w w5) := B4.out.trans (b5.mono B4.out.size)
  clear b5 B4
  go_wp2_with fail
  refine (HNEW.out _).mono ?_
  rintro e w6 ⟨rfl, b6, r6⟩
  have B6 : Hid (Below w.heap.size w w6) := B5.out.trans (b6.mono B5.out.size)
  have R6 := Lib.hid r6
  have HG : Hid (w.heap.size ≤ w5.heap.size) := B5.out.size
  obtain ⟨g, hg⟩ : ∃ g, w5.heap.size = g := ⟨_, rfl⟩
  rw [hg] at R6 HG ⊢
  clear b6 r6 B5 hg
  go_wp2_with fail
  go_loopw [9] (fun iv wr => ∃ (i : Nat), i ≤ n ∧ iv = .int .i64 i ∧ RAt 88 wr g ⟨(tailL z n i T).toArray⟩ 0 ∧ Below w.heap.size w wr) (fun iv _ => n - (intOf iv).toNat)
  case atStart => exact ⟨0, Nat.zero_le _, rfl, R6.out, B6.out⟩
  case round =>
    obtain ⟨i, hi, rfl, hR, hB⟩ := hrel
    have hi2 : (i : Int) ≤ n := by omega
    have HB := Lib.hid hB
    have HR := Lib.hid hR
    by_cases hlt : i < n
    · have hlt2 : (i : Int) < n := by omega
      obtain ⟨b, off, rfl, hblt, hc⟩ := HI.out.below hB (by omega)
      have c1 := hc i hlt
      have hbg : b ≠ g := fun e => by
        obtain ⟨b', off', e2, hb', _⟩ := HI.out (by omega)
        cases e2
        have := HG.out
        omega
      have HP := Lib.hid (HPUT.out i hlt)
      have hx := HZ.out i hlt
      have hlen := encN_len (codeN_lt hx)
      have hadd3 : ∀ W, (Op.stringOp .add ⟨(encN (codeN (z i))).toArray⟩ ⟨m.toArray⟩).run Try.prog W = .ok (.string ⟨(encN (codeN (z i)) ++ m).toArray⟩) W := fun W => run_string_add_lists (P := Try.prog) W _ _ (by omega) (by omega)
      have hgv : getV ⟨(encN (codeN (z i)) ++ m).toArray⟩ (getR 0 (encN (codeN (z i)) ++ m)) = .tuple #[.int .i64 (z i), .string ⟨m.toArray⟩, .int .i64 0] := by
        rw [get_put (z i) hx]
        simp only [getV]
        rw [extract_drop, numN_code]
        have e2 : (encN (codeN (z i)) ++ m).drop (encN (codeN (z i))).length = m := by simp
        rw [e2]
      have HGET := Lib.hid (fun W => get_any ⟨(encN (codeN (z i)) ++ m).toArray⟩ (by show (encN (codeN (z i)) ++ m).toArray.size ≤ _; simp; omega) W)
      have eL : (⟨(encN (codeN (z i)) ++ m).toArray⟩ : ByteArray).data.toList = encN (codeN (z i)) ++ m := rfl
      rw [eL, hgv] at HGET
      have hrv := readV_put (fun _ _ => 0) (z i) hx (tailL z n (i + 1) T) rfl
      rw [← HSTEP.out i hlt] at hrv
      have HNUM := Lib.hid (fun W (hW : RAt 88 W g ⟨(tailL z n i T).toArray⟩ 0) => num_any g ⟨(tailL z n i T).toArray⟩ 0 (Nat.le_trans (HTL.out i hi) (by decide)) W hW)
      rw [hrv] at HNUM
      simp only [] at HNUM
      have HLT := Lib.hid hlt
      clear hrv hgv eL hlen hx hc hR hB hlt hi HPUT HSTEP HTL HZ HI
      generalize encN (codeN (z i)) ++ m = ER at *
      generalize encN (codeN (z i)) = EX at *
      generalize z i = x at *
      go_wp2_with fail
      refine (HP.out _).mono ?_
      rintro e w7 ⟨rfl, b7⟩
      have B7 : Hid (Below w.heap.size w w7) := HB.out.trans (b7.mono HB.out.size)
      have R7 := Lib.hid (HR.out.below b7)
      have c7 := (b7.cell (by exact hblt)).trans c1
      have hb7 := Nat.lt_of_lt_of_le hblt b7.size
      clear b7 HB HR c1 hblt
      go_wp2_with fail
      refine (HGET.out _).mono ?_
      rintro e w8 ⟨rfl, b8⟩
      have B8 : Hid (Below w.heap.size w w8) := B7.out.trans (b8.mono B7.out.size)
      have R8 := Lib.hid (R7.out.below b8)
      have c8 : w8.cell? ⟨b, off + i, none⟩ = some (.int .i64 x) := (b8.cell (by exact hb7)).trans c7
      have hb8 := Nat.lt_of_lt_of_le hb7 b8.size
      clear b8 B7 R7 c7 hb7
      go_wp2_with fail
      go_region_held3 (fun w' => w'.cell? ⟨b, off + i, none⟩ = some (.int .i64 x)) (go_keep) ((go_at_call 30; refine (HNUM.out _ (by exact R8.out)).mono ?_; rintro e w9 ⟨rfl, g9, r9⟩; (have G9 : Hid (Gr g w8 w9) := gr_trans (gr_below (by go_grown)) g9); (have R9 := Lib.hid r9); (have c9 : w9.cell? ⟨b, off + i, none⟩ = some (.int .i64 x) := ((World.cell?_of_block (G9.out.block b hb8 (fun e => hbg (by injection e)))).trans c8)); clear g9 r9))
      go_wp2_with fail
      go_roundw
      case rel => exact ⟨i + 1, by have := HLT.out; omega, by go_num, R9.out, below_gr B8.out (by first | exact G9.out | exact gr_trans G9.out (gr_below (by go_grown))) HG.out (Nat.le_refl _)⟩
      case measure => have := HLT.out; simp [intOf]; omega
    · obtain rfl : i = n := by omega
      rw [HEND.out, ← HTT.out] at HR
      have HTX2 := Lib.hid (rdtext_any 200 g ⟨(txtL l ++ m).toArray⟩ 0 (by rw [HTT.out, ← HEND.out]; exact Nat.le_trans (HTL.out i (Nat.le_refl _)) (by decide)) wr HR.out)
      rw [HTV.out] at HTX2
      clear hlt hR hi hB
      go_wp2_with fail
      refine HTX2.out.mono ?_
      rintro e w7 ⟨rfl, g7, r7⟩
      have B7 : Hid (Below w.heap.size w w7) := below_gr HB.out g7 HG.out (Nat.le_refl _)
      have R7 := Lib.hid r7
      clear g7 r7 HB HR
      go_wp2_with fail
      refine (HA.out _).mono ?_
      rintro e w8 ⟨rfl, b8⟩
      have B8 : Hid (Below w.heap.size w w8) := B7.out.trans (b8.mono B7.out.size)
      have R8 := Lib.hid (R7.out.below b8)
      clear b8 B7 R7
      have HErr := Lib.hid (err_any g ⟨m.toArray⟩ 0 w8 R8.out)
      have HLeft := Lib.hid (left_any g ⟨m.toArray⟩ 0 w8 R8.out (by rw [HZM.out]; omega))
      have HEnd := Lib.hid (end_any g ⟨m.toArray⟩ 0 w8 R8.out (by rw [HZM.out]; omega))
      by_cases hz : 0 < ByteArray.size ⟨m.toArray⟩
      · have dz := toList_some hz
        have dz2 : m.isEmpty = false := by
          rw [List.isEmpty_eq_false_iff]
          intro e
          rw [e] at hz
          exact absurd hz (by decide)
        have HV : Hid (endV ⟨m.toArray⟩ 0 = 3) := by show _ = _; unfold endV; rw [if_neg (by simp), if_pos hz]
        rw [HV.out] at HEnd
        clear hz
        go_wp2_with fail
        refine HErr.out.mono ?_
        rintro e w9 ⟨rfl, rfl⟩
        go_wp2_with fail
        refine HLeft.out.mono ?_
        rintro e w9 ⟨rfl, rfl⟩
        go_wp2_with fail
        refine HEnd.out.mono ?_
        rintro e w9 ⟨rfl, rfl⟩
        go_wp2
        go_ret
        exact ⟨rfl, B8.out⟩
      · have hm0 : m = [] := by
          rw [zm] at hz
          exact List.length_eq_zero_iff.1 (by omega)
        subst hm0
        have HV : Hid (endV ⟨([] : List UInt8).toArray⟩ 0 = 0) := by show _ = _; unfold endV; rw [if_neg (by simp), if_neg hz]
        rw [HV.out] at HEnd
        clear hz
        go_wp2_with fail
        refine HErr.out.mono ?_
        rintro e w9 ⟨rfl, rfl⟩
        go_wp2_with fail
        refine HLeft.out.mono ?_
        rintro e w9 ⟨rfl, rfl⟩
        go_wp2_with fail
        refine HEnd.out.mono ?_
        rintro e w9 ⟨rfl, rfl⟩
        go_wp2
        go_ret
        exact ⟨rfl, B8.out⟩
end Go.Proofs.Ytmepaeppkeaifaa
