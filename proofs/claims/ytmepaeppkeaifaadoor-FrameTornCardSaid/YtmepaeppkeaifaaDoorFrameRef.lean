/- The document's layer 8: U32, Put, Next. -/
import Derived.Test.YtmepaeppkeaifaaDoorFrameNext
namespace Go.Proofs.YtmepaeppkeaifaaDoor
open Go.ChangeShapes Go.WideShapes Go.ChangeAt Go.RowKit
theorem conv4 (n : Nat) (hn : n < 4294967296) (w : World) :
    (convert 38 9 (.slice (some ⟨w.heap.size, 0, none⟩) 4 4)).run Tryd.prog (w.alloc (.cells #[.int .u8 ((n : Int) / 16777216), .int .u8 ((n : Int) / 65536 % 256), .int .u8 ((n : Int) / 256 % 256), .int .u8 ((n : Int) % 256)] 5)) = .ok (.string ⟨(be4 n).toArray⟩) (w.alloc (.cells #[.int .u8 ((n : Int) / 16777216), .int .u8 ((n : Int) / 65536 % 256), .int .u8 ((n : Int) / 256 % 256), .int .u8 ((n : Int) % 256)] 5)) := by
  have h := run_convert_bytes_back (P := Tryd.prog) (w.alloc (.cells #[.int .u8 ((n : Int) / 16777216), .int .u8 ((n : Int) / 65536 % 256), .int .u8 ((n : Int) / 256 % 256), .int .u8 ((n : Int) % 256)] 5)) 38 9 5 ⟨w.heap.size, 0, none⟩ 4 (be4 n) Tryd.underlying38 Tryd.underlying5 Tryd.underlying9 (fun j hj => by
    rw [add_plain, World.cell?_alloc_new]
    have e : ∀ k : Nat, (UInt8.ofNat k).toNat = k % 256 := fun k => by simp
    match j, hj with
    | 0, _ => simp [be4]; omega
    | 1, _ => simp [be4]
    | 2, _ => simp [be4]
    | 3, _ => simp [be4])
  exact h
theorem u32_any (n : Nat) (hn : n < 4294967296) (w : World) :
    Calls Tryd.prog 18 #[.int .u32 (n : Nat)] w (Ret (txt (be4 n)) w) := by
  have hcv := conv4 n hn w
  have h1 : (n : Int) ≤ 4294967295 := by omega
  clear hn
  unfold txt
  go_enter Tryd.func18, Tryd.ntmps18
  go_wp2
  go_ret
  exact ⟨rfl, by go_grown⟩
set_option maxHeartbeats 1000000 in
theorem refput_any (l : List UInt8) (h : l.length ≤ 1024) (w : World) :
    Calls Tryd.prog 10 #[.string ⟨l.toArray⟩] w (Ret (txt (frameL l)) w) := by
  have hsz : ByteArray.size ⟨l.toArray⟩ = l.length := rfl
  have H1 := Lib.hid (fun W => u32_any l.length (by omega) W)
  have H2 := Lib.hid (fun W => u32_any (sumN 0 l) (sumN_lt 0 l) W)
  have HON := Lib.hid (fun W => refon_any 0 (by decide) ⟨l.toArray⟩ (by rw [hsz]; omega) W)
  have el : (⟨l.toArray⟩ : ByteArray).data.toList = l := rfl
  rw [el] at HON
  have hadd1 : ∀ W, (Op.stringOp .add ⟨(be4 l.length).toArray⟩ ⟨(be4 (sumN 0 l)).toArray⟩).run Tryd.prog W = .ok (.string ⟨(be4 l.length ++ be4 (sumN 0 l)).toArray⟩) W := fun W => run_string_add_lists (P := Tryd.prog) W _ _ (by rw [be4_length]; decide) (by rw [be4_length]; decide)
  have hadd2 : ∀ W, (Op.stringOp .add ⟨(be4 l.length ++ be4 (sumN 0 l)).toArray⟩ ⟨l.toArray⟩).run Tryd.prog W = .ok (.string ⟨(frameL l).toArray⟩) W := fun W => run_string_add_lists (P := Tryd.prog) W _ _ (by rw [List.length_append, be4_length, be4_length]; decide) (by omega)
  have e32 : IntKind.u32.wrap (l.length : Int) = (l.length : Int) := by simp only [IntKind.wrap, IntKind.bits, IntKind.signed]; simp; omega
  have h1 : (l.length : Int) ≤ 1024 := by omega
  clear h el
  unfold txt at *
  generalize be4 (sumN 0 l) = y at *
  generalize be4 l.length = x at *
  generalize sumN 0 l = sm at *
  generalize frameL l = fl at *
  go_enter Tryd.func10, Tryd.ntmps10
  go_wp2_with fail
  refine (H1.out _).mono ?_
  rintro e w1 ⟨rfl, b1⟩
  go_wp2_with fail
  refine (HON.out _).mono ?_
  rintro e w2 ⟨rfl, rfl⟩
  go_wp2_with fail
  refine (H2.out _).mono ?_
  rintro e w2 ⟨rfl, b2⟩
  have HB : Hid (Below w.heap.size w w2) := b1.trans (b2.mono b1.size)
  clear b1 b2
  go_wp2
  go_ret
  exact ⟨rfl, HB.out⟩
theorem byteAt_zeros (L : List UInt8) (j i : Nat) : byteAt (L ++ List.replicate j 0) i = byteAt L i := by
  unfold byteAt
  simp only [List.getD_eq_getElem?_getD, List.getElem?_append]
  split
  · rfl
  · rename_i h
    rw [List.getElem?_eq_none (l := L) (by omega), List.getElem?_replicate]
    split <;> rfl
theorem least_zeros (L : List UInt8) (j : Nat) : least (L ++ List.replicate j 0) = least L := leastN_congr 4 fun i _ => byteAt_zeros L j i
theorem size_zeros (s : ByteArray) (j : Nat) : ByteArray.size ⟨(s.data.toList ++ List.replicate j 0).toArray⟩ = s.size + j := by
  show (s.data.toList ++ List.replicate j 0).toArray.size = _
  simp
def strLen : Value → Nat
  | .string b => b.size
  | _ => 0
set_option maxHeartbeats 4000000 in
theorem refnext_any (s : ByteArray) (hs : s.size ≤ 900000) (w : World) :
    Calls Tryd.prog 11 #[.string s] w (Ret (nextV s (nextR s.data.toList)) w) := by
  have hl := len_eq s
  have hlt := least_lt s.data.toList
  have hs2 : (s.size : Int) ≤ 900000 := by omega
  have HNUM : Hid (∀ j W, 4 ≤ s.size + j → j ≤ 4 → Calls Tryd.prog 20 #[.string ⟨(s.data.toList ++ List.replicate j 0).toArray⟩] W (fun e w' => e = .returned (.int .u32 (least s.data.toList : Nat)) ∧ ∃ q, w' = W.drewN q)) := fun j W h4 hj => by
    have h := refnumber_any ⟨(s.data.toList ++ List.replicate j 0).toArray⟩ (by rw [size_zeros]; exact h4) (by rw [size_zeros]; omega) W
    have e : (⟨(s.data.toList ++ List.replicate j 0).toArray⟩ : ByteArray).data.toList = s.data.toList ++ List.replicate j 0 := rfl
    rw [e, least_zeros] at h
    exact h
  have HNS0 := Lib.hid (fun (h4 : 4 ≤ s.size) W => refnumber_any s h4 (by omega) W)
  unfold nextR
  rw [hl]
  obtain ⟨n, hn⟩ : ∃ n, least s.data.toList = n := ⟨_, rfl⟩
  rw [hn] at HNUM HNS0 hlt ⊢
  by_cases h1 : 1024 < n
  · rw [if_pos h1]
    have d1 := decide_eq_true h1
    have d2 : decide (1024 < (n : Int)) = true := decide_eq_true (by omega)
    clear h1 hn hlt hl HNS0
    unfold nextV
    go_enter Tryd.func11, Tryd.ntmps11
    go_wp2_with fail
    go_loopw [5] (fun tv wr => w = wr ∧ ∃ j, j ≤ 4 ∧ tv = .string ⟨(s.data.toList ++ List.replicate j 0).toArray⟩) (fun tv _ => 4 - strLen tv)
    case atStart => exact ⟨rfl, 0, by decide, by simp⟩
    case round =>
      obtain ⟨rfl, j, hj, rfl⟩ := hrel
      have hz : ByteArray.size ⟨(s.data.toList ++ List.replicate j 0).toArray⟩ = s.size + j := size_zeros s j
      have hz2 : ((s.size + j : Nat) : Int) ≤ 900004 := by omega
      by_cases h4 : s.size + j < 4
      · have d4 : decide (((s.size + j : Nat) : Int) < 4) = true := decide_eq_true (by omega)
        have d4' := decide_eq_true h4
        have hadd : ∀ W, (Op.stringOp .add ⟨(s.data.toList ++ List.replicate j 0).toArray⟩ ⟨#[0]⟩).run Tryd.prog W = .ok (.string ⟨(s.data.toList ++ List.replicate (j + 1) 0).toArray⟩) W := fun W => by
          have h := run_string_add_lists (P := Tryd.prog) W (s.data.toList ++ List.replicate j 0) [0] (by rw [List.length_append, List.length_replicate, len_eq]; omega) (by decide)
          rw [List.append_assoc, ← List.replicate_succ'] at h
          exact h
        have HM : Hid (strLen (.string ⟨(s.data.toList ++ List.replicate (j + 1) 0).toArray⟩) = s.size + (j + 1)) := size_zeros s (j + 1)
        have HM2 : Hid (strLen (.string ⟨(s.data.toList ++ List.replicate j 0).toArray⟩) = s.size + j) := size_zeros s j
        have H4 := Lib.hid h4
        obtain ⟨T1, hT1⟩ : ∃ x, x = s.data.toList ++ List.replicate (j + 1) 0 := ⟨_, rfl⟩
        obtain ⟨T0, hT0⟩ : ∃ x, x = s.data.toList ++ List.replicate j 0 := ⟨_, rfl⟩
        have HT1 := Lib.hid hT1
        rw [← hT0] at hz hadd HM2 ⊢
        rw [← hT1] at hadd HM
        obtain ⟨m, hm⟩ : ∃ m, s.size + j = m := ⟨_, rfl⟩
        rw [hm] at hz d4 d4' hz2
        clear hT1 hT0 h4 hm
        go_wp2_with fail
        go_roundw
        case rel => exact ⟨by first | trivial | rfl, j + 1, by have := H4.out; omega, by rw [HT1.out]⟩
        case measure =>
          have h1 := HM.out
          have h2 := HM2.out
          have h3 := H4.out
          show 4 - strLen (.string ⟨T1.toArray⟩) < 4 - strLen (.string ⟨T0.toArray⟩)
          rw [h1, h2]
          omega
      · have d4 : decide (((s.size + j : Nat) : Int) < 4) = false := decide_eq_false (by omega)
        have d4' := decide_eq_false h4
        have HN1 := Lib.hid (HNUM.out j w (by omega) hj)
        obtain ⟨T0, hT0⟩ : ∃ x, x = s.data.toList ++ List.replicate j 0 := ⟨_, rfl⟩
        rw [← hT0] at hz HN1 ⊢
        obtain ⟨m, hm⟩ : ∃ m, s.size + j = m := ⟨_, rfl⟩
        rw [hm] at hz d4 d4' hz2
        clear hT0 h4 hm hj HNUM
        go_wp2_with fail
        refine HN1.out.mono ?_
        rintro e w1 ⟨rfl, q1, rfl⟩
        obtain ⟨wa, hwa⟩ : ∃ x, x = w.drewN q1 := ⟨_, rfl⟩
        have HWA : Hid (Below w.heap.size w wa) := by rw [hwa]; exact below_drewN (Below.refl _ _) _
        rw [← hwa]
        clear hwa HN1
        go_wp2
        go_ret3
        exact ⟨rfl, HWA.out⟩
  · rw [if_neg h1]
    have d1 := decide_eq_false h1
    have d2 : decide (1024 < (n : Int)) = false := decide_eq_false (by omega)
    have n1 : (n : Int) ≤ 1024 := by omega
    by_cases h8 : s.size < 8
    · rw [if_pos (by omega)]
      have d8 := decide_eq_true h8
      have d8' : decide ((s.size : Int) < 8) = true := decide_eq_true (by omega)
      clear h1 hn hlt hl HNS0 h8
      unfold nextV
      go_enter Tryd.func11, Tryd.ntmps11
      go_wp2_with fail
      go_loopw [5] (fun tv wr => w = wr ∧ ∃ j, j ≤ 4 ∧ tv = .string ⟨(s.data.toList ++ List.replicate j 0).toArray⟩) (fun tv _ => 4 - strLen tv)
      case atStart => exact ⟨rfl, 0, by decide, by simp⟩
      case round =>
        obtain ⟨rfl, j, hj, rfl⟩ := hrel
        have hz : ByteArray.size ⟨(s.data.toList ++ List.replicate j 0).toArray⟩ = s.size + j := size_zeros s j
        have hz2 : ((s.size + j : Nat) : Int) ≤ 900004 := by omega
        by_cases h4 : s.size + j < 4
        · have d4 : decide (((s.size + j : Nat) : Int) < 4) = true := decide_eq_true (by omega)
          have d4' := decide_eq_true h4
          have hadd : ∀ W, (Op.stringOp .add ⟨(s.data.toList ++ List.replicate j 0).toArray⟩ ⟨#[0]⟩).run Tryd.prog W = .ok (.string ⟨(s.data.toList ++ List.replicate (j + 1) 0).toArray⟩) W := fun W => by
            have h := run_string_add_lists (P := Tryd.prog) W (s.data.toList ++ List.replicate j 0) [0] (by rw [List.length_append, List.length_replicate, len_eq]; omega) (by decide)
            rw [List.append_assoc, ← List.replicate_succ'] at h
            exact h
          have HM : Hid (strLen (.string ⟨(s.data.toList ++ List.replicate (j + 1) 0).toArray⟩) = s.size + (j + 1)) := size_zeros s (j + 1)
          have HM2 : Hid (strLen (.string ⟨(s.data.toList ++ List.replicate j 0).toArray⟩) = s.size + j) := size_zeros s j
          have H4 := Lib.hid h4
          obtain ⟨T1, hT1⟩ : ∃ x, x = s.data.toList ++ List.replicate (j + 1) 0 := ⟨_, rfl⟩
          obtain ⟨T0, hT0⟩ : ∃ x, x = s.data.toList ++ List.replicate j 0 := ⟨_, rfl⟩
          have HT1 := Lib.hid hT1
          rw [← hT0] at hz hadd HM2 ⊢
          rw [← hT1] at hadd HM
          obtain ⟨m, hm⟩ : ∃ m, s.size + j = m := ⟨_, rfl⟩
          rw [hm] at hz d4 d4' hz2
          clear hT1 hT0 h4 hm
          go_wp2_with fail
          go_roundw
          case rel => exact ⟨by first | trivial | rfl, j + 1, by have := H4.out; omega, by rw [HT1.out]⟩
          case measure =>
            have h1 := HM.out
            have h2 := HM2.out
            have h3 := H4.out
            show 4 - strLen (.string ⟨T1.toArray⟩) < 4 - strLen (.string ⟨T0.toArray⟩)
            rw [h1, h2]
            omega
        · have d4 : decide (((s.size + j : Nat) : Int) < 4) = false := decide_eq_false (by omega)
          have d4' := decide_eq_false h4
          have HN1 := Lib.hid (HNUM.out j w (by omega) hj)
          obtain ⟨T0, hT0⟩ : ∃ x, x = s.data.toList ++ List.replicate j 0 := ⟨_, rfl⟩
          rw [← hT0] at hz HN1 ⊢
          obtain ⟨m, hm⟩ : ∃ m, s.size + j = m := ⟨_, rfl⟩
          rw [hm] at hz d4 d4' hz2
          clear hT0 h4 hm hj HNUM
          go_wp2_with fail
          refine HN1.out.mono ?_
          rintro e w1 ⟨rfl, q1, rfl⟩
          obtain ⟨wa, hwa⟩ : ∃ x, x = w.drewN q1 := ⟨_, rfl⟩
          have HWA : Hid (Below w.heap.size w wa) := by rw [hwa]; exact below_drewN (Below.refl _ _) _
          rw [← hwa]
          clear hwa HN1
          go_wp2
          go_ret3
          exact ⟨rfl, HWA.out⟩
    · have d8 := decide_eq_false h8
      have d8' : decide ((s.size : Int) < 8) = false := decide_eq_false (by omega)
      have HNS := Lib.hid (HNS0.out (by omega))
      obtain ⟨k, hk⟩ : ∃ k : Nat, 8 + n = k := ⟨_, rfl⟩
      have ek : 8 + (n : Int) = (k : Int) := by omega
      by_cases h2 : s.size < 8 + n
      · rw [if_pos h2]
        have d3 : decide ((s.size : Int) < (k : Int)) = true := decide_eq_true (by omega)
        have d3' : decide (s.size < k) = true := decide_eq_true (by omega)
        clear h1 hn hlt hl HNS0 h8 h2 hk
        unfold nextV
        go_enter Tryd.func11, Tryd.ntmps11
        go_wp2_with fail
        go_loopw [5] (fun tv wr => w = wr ∧ ∃ j, j ≤ 4 ∧ tv = .string ⟨(s.data.toList ++ List.replicate j 0).toArray⟩) (fun tv _ => 4 - strLen tv)
        case atStart => exact ⟨rfl, 0, by decide, by simp⟩
        case round =>
          obtain ⟨rfl, j, hj, rfl⟩ := hrel
          have hz : ByteArray.size ⟨(s.data.toList ++ List.replicate j 0).toArray⟩ = s.size + j := size_zeros s j
          have hz2 : ((s.size + j : Nat) : Int) ≤ 900004 := by omega
          by_cases h4 : s.size + j < 4
          · have d4 : decide (((s.size + j : Nat) : Int) < 4) = true := decide_eq_true (by omega)
            have d4' := decide_eq_true h4
            have hadd : ∀ W, (Op.stringOp .add ⟨(s.data.toList ++ List.replicate j 0).toArray⟩ ⟨#[0]⟩).run Tryd.prog W = .ok (.string ⟨(s.data.toList ++ List.replicate (j + 1) 0).toArray⟩) W := fun W => by
              have h := run_string_add_lists (P := Tryd.prog) W (s.data.toList ++ List.replicate j 0) [0] (by rw [List.length_append, List.length_replicate, len_eq]; omega) (by decide)
              rw [List.append_assoc, ← List.replicate_succ'] at h
              exact h
            have HM : Hid (strLen (.string ⟨(s.data.toList ++ List.replicate (j + 1) 0).toArray⟩) = s.size + (j + 1)) := size_zeros s (j + 1)
            have HM2 : Hid (strLen (.string ⟨(s.data.toList ++ List.replicate j 0).toArray⟩) = s.size + j) := size_zeros s j
            have H4 := Lib.hid h4
            obtain ⟨T1, hT1⟩ : ∃ x, x = s.data.toList ++ List.replicate (j + 1) 0 := ⟨_, rfl⟩
            obtain ⟨T0, hT0⟩ : ∃ x, x = s.data.toList ++ List.replicate j 0 := ⟨_, rfl⟩
            have HT1 := Lib.hid hT1
            rw [← hT0] at hz hadd HM2 ⊢
            rw [← hT1] at hadd HM
            obtain ⟨m, hm⟩ : ∃ m, s.size + j = m := ⟨_, rfl⟩
            rw [hm] at hz d4 d4' hz2
            clear hT1 hT0 h4 hm
            go_wp2_with fail
            go_roundw
            case rel => exact ⟨by first | trivial | rfl, j + 1, by have := H4.out; omega, by rw [HT1.out]⟩
            case measure =>
              have h1 := HM.out
              have h2 := HM2.out
              have h3 := H4.out
              show 4 - strLen (.string ⟨T1.toArray⟩) < 4 - strLen (.string ⟨T0.toArray⟩)
              rw [h1, h2]
              omega
          · have d4 : decide (((s.size + j : Nat) : Int) < 4) = false := decide_eq_false (by omega)
            have d4' := decide_eq_false h4
            have HN1 := Lib.hid (HNUM.out j w (by omega) hj)
            obtain ⟨T0, hT0⟩ : ∃ x, x = s.data.toList ++ List.replicate j 0 := ⟨_, rfl⟩
            rw [← hT0] at hz HN1 ⊢
            obtain ⟨m, hm⟩ : ∃ m, s.size + j = m := ⟨_, rfl⟩
            rw [hm] at hz d4 d4' hz2
            clear hT0 h4 hm hj HNUM
            go_wp2_with fail
            refine HN1.out.mono ?_
            rintro e w1 ⟨rfl, q1, rfl⟩
            obtain ⟨wa, hwa⟩ : ∃ x, x = w.drewN q1 := ⟨_, rfl⟩
            have HWA : Hid (Below w.heap.size w wa) := by rw [hwa]; exact below_drewN (Below.refl _ _) _
            rw [← hwa]
            clear hwa HN1
            go_wp2_with fail
            refine (HNS.out _).mono ?_
            rintro e w2 ⟨rfl, q2, rfl⟩
            obtain ⟨wb, hwb⟩ : ∃ x, x = wa.drewN q2 := ⟨_, rfl⟩
            have HWB : Hid (Below w.heap.size w wb) := by rw [hwb]; exact below_drewN HWA.out _
            rw [← hwb]
            clear hwb
            go_wp2
            go_ret3
            exact ⟨rfl, HWB.out⟩
      · rw [if_neg h2]
        have d3 : decide ((s.size : Int) < (k : Int)) = false := decide_eq_false (by omega)
        have d3' : decide (s.size < k) = false := decide_eq_false (by omega)
        have HON : Hid (∀ (W : World) (q : Nat), Calls Tryd.prog 19 #[.int .u32 0, .string (s.extract 8 k)] (W.drewN q) (fun e w' => e = .returned (.int .u32 (sumN 0 ((s.data.toList.drop 8).take n) : Nat)) ∧ w' = W.drewN q)) := fun W q => by
          have h := refon_any 0 (by decide) (s.extract 8 k) (Nat.le_trans (ext_le _ _ _) (by omega)) (W.drewN q)
          rw [ext_toList, show k - 8 = n by omega] at h
          exact h.mono fun _ _ ⟨h1, h2⟩ => ⟨h1, h2.symm⟩
        have HN4 : Hid (∀ (W : World) (q : Nat), Calls Tryd.prog 20 #[.string (s.extract 4 s.size)] (W.drewN q) (fun e w' => e = .returned (.int .u32 (least (s.data.toList.drop 4) : Nat)) ∧ ∃ m, w' = (W.drewN q).drewN m)) := fun W q => by
          have h := refnumber_any (s.extract 4 s.size) (by rw [ByteArray.size_extract]; omega) (Nat.le_trans (ext_le _ _ _) (by omega)) (W.drewN q)
          rw [ext_end] at h
          exact h
        have k4 : (4 : Int) ≤ s.size := by omega
        have k8 : (k : Int) ≤ s.size := by omega
        have k9 : k ≤ s.size := by omega
        have k7 : (8 : Int) ≤ k := by omega
        have k6 : 8 ≤ k := by omega
        by_cases h3 : sumN 0 ((s.data.toList.drop 8).take n) = least (s.data.toList.drop 4)
        · rw [if_neg (by simpa using h3)]
          rw [h3] at HON
          clear h1 hn hlt hl HNS0 h8 h2 h3
          unfold nextV
          (try simp only [])
          (try rw [hk])
          clear hk
          generalize least (s.data.toList.drop 4) = x at *
          go_enter Tryd.func11, Tryd.ntmps11
          go_wp2_with fail
          go_loopw [5] (fun tv wr => w = wr ∧ ∃ j, j ≤ 4 ∧ tv = .string ⟨(s.data.toList ++ List.replicate j 0).toArray⟩) (fun tv _ => 4 - strLen tv)
          case atStart => exact ⟨rfl, 0, by decide, by simp⟩
          case round =>
            obtain ⟨rfl, j, hj, rfl⟩ := hrel
            have hz : ByteArray.size ⟨(s.data.toList ++ List.replicate j 0).toArray⟩ = s.size + j := size_zeros s j
            have hz2 : ((s.size + j : Nat) : Int) ≤ 900004 := by omega
            by_cases h4 : s.size + j < 4
            · have d4 : decide (((s.size + j : Nat) : Int) < 4) = true := decide_eq_true (by omega)
              have d4' := decide_eq_true h4
              have hadd : ∀ W, (Op.stringOp .add ⟨(s.data.toList ++ List.replicate j 0).toArray⟩ ⟨#[0]⟩).run Tryd.prog W = .ok (.string ⟨(s.data.toList ++ List.replicate (j + 1) 0).toArray⟩) W := fun W => by
                have h := run_string_add_lists (P := Tryd.prog) W (s.data.toList ++ List.replicate j 0) [0] (by rw [List.length_append, List.length_replicate, len_eq]; omega) (by decide)
                rw [List.append_assoc, ← List.replicate_succ'] at h
                exact h
              have HM : Hid (strLen (.string ⟨(s.data.toList ++ List.replicate (j + 1) 0).toArray⟩) = s.size + (j + 1)) := size_zeros s (j + 1)
              have HM2 : Hid (strLen (.string ⟨(s.data.toList ++ List.replicate j 0).toArray⟩) = s.size + j) := size_zeros s j
              have H4 := Lib.hid h4
              obtain ⟨T1, hT1⟩ : ∃ x, x = s.data.toList ++ List.replicate (j + 1) 0 := ⟨_, rfl⟩
              obtain ⟨T0, hT0⟩ : ∃ x, x = s.data.toList ++ List.replicate j 0 := ⟨_, rfl⟩
              have HT1 := Lib.hid hT1
              rw [← hT0] at hz hadd HM2 ⊢
              rw [← hT1] at hadd HM
              obtain ⟨m, hm⟩ : ∃ m, s.size + j = m := ⟨_, rfl⟩
              rw [hm] at hz d4 d4' hz2
              clear hT1 hT0 h4 hm
              go_wp2_with fail
              go_roundw
              case rel => exact ⟨by first | trivial | rfl, j + 1, by have := H4.out; omega, by rw [HT1.out]⟩
              case measure =>
                have h1 := HM.out
                have h2 := HM2.out
                have h3 := H4.out
                show 4 - strLen (.string ⟨T1.toArray⟩) < 4 - strLen (.string ⟨T0.toArray⟩)
                rw [h1, h2]
                omega
            · have d4 : decide (((s.size + j : Nat) : Int) < 4) = false := decide_eq_false (by omega)
              have d4' := decide_eq_false h4
              have HN1 := Lib.hid (HNUM.out j w (by omega) hj)
              obtain ⟨T0, hT0⟩ : ∃ x, x = s.data.toList ++ List.replicate j 0 := ⟨_, rfl⟩
              rw [← hT0] at hz HN1 ⊢
              obtain ⟨m, hm⟩ : ∃ m, s.size + j = m := ⟨_, rfl⟩
              rw [hm] at hz d4 d4' hz2
              clear hT0 h4 hm hj HNUM
              go_wp2_with fail
              refine HN1.out.mono ?_
              rintro e w1 ⟨rfl, q1, rfl⟩
              obtain ⟨wa, hwa⟩ : ∃ x, x = w.drewN q1 := ⟨_, rfl⟩
              have HWA : Hid (Below w.heap.size w wa) := by rw [hwa]; exact below_drewN (Below.refl _ _) _
              rw [← hwa]
              clear hwa HN1
              go_wp2_with fail
              refine (HNS.out _).mono ?_
              rintro e w2 ⟨rfl, q2, rfl⟩
              obtain ⟨wb, hwb⟩ : ∃ x, x = wa.drewN q2 := ⟨_, rfl⟩
              have HWB : Hid (Below w.heap.size w wb) := by rw [hwb]; exact below_drewN HWA.out _
              rw [← hwb]
              clear hwb
              go_wp2_with fail
              refine (HNS.out _).mono ?_
              rintro e w3 ⟨rfl, q3, rfl⟩
              obtain ⟨wd, hwd⟩ : ∃ x, x = wb.drewN q3 := ⟨_, rfl⟩
              have HWD : Hid (Below w.heap.size w wd) := by rw [hwd]; exact below_drewN HWB.out _
              rw [← hwd]
              clear hwd
              go_wp2_with fail
              go_quiet ((first | (go_at_call 19; exact Calls.quiet_of_same (HON.out _ _)) | (go_at_call 20; exact Calls.quiet_of (HN4.out _ _))))
              go_wp2_with fail
              go_quiet (fail)
              go_wp2
              go_ret3
              exact ⟨rfl, below_drewN (below_drewN HWD.out _) _⟩
        · rw [if_pos h3]
          have d5 : ((sumN 0 ((s.data.toList.drop 8).take n) : Int) == (least (s.data.toList.drop 4) : Int)) = false := by rw [beq_eq_false_iff_ne]; omega
          clear h1 hn hlt hl HNS0 h8 h2 h3
          unfold nextV
          generalize least (s.data.toList.drop 4) = x at *
          generalize sumN 0 ((s.data.toList.drop 8).take n) = y at *
          have d6 : ((y : Int) != (x : Int)) = true := by simp [bne, d5]
          clear hk
          go_enter Tryd.func11, Tryd.ntmps11
          go_wp2_with fail
          go_loopw [5] (fun tv wr => w = wr ∧ ∃ j, j ≤ 4 ∧ tv = .string ⟨(s.data.toList ++ List.replicate j 0).toArray⟩) (fun tv _ => 4 - strLen tv)
          case atStart => exact ⟨rfl, 0, by decide, by simp⟩
          case round =>
            obtain ⟨rfl, j, hj, rfl⟩ := hrel
            have hz : ByteArray.size ⟨(s.data.toList ++ List.replicate j 0).toArray⟩ = s.size + j := size_zeros s j
            have hz2 : ((s.size + j : Nat) : Int) ≤ 900004 := by omega
            by_cases h4 : s.size + j < 4
            · have d4 : decide (((s.size + j : Nat) : Int) < 4) = true := decide_eq_true (by omega)
              have d4' := decide_eq_true h4
              have hadd : ∀ W, (Op.stringOp .add ⟨(s.data.toList ++ List.replicate j 0).toArray⟩ ⟨#[0]⟩).run Tryd.prog W = .ok (.string ⟨(s.data.toList ++ List.replicate (j + 1) 0).toArray⟩) W := fun W => by
                have h := run_string_add_lists (P := Tryd.prog) W (s.data.toList ++ List.replicate j 0) [0] (by rw [List.length_append, List.length_replicate, len_eq]; omega) (by decide)
                rw [List.append_assoc, ← List.replicate_succ'] at h
                exact h
              have HM : Hid (strLen (.string ⟨(s.data.toList ++ List.replicate (j + 1) 0).toArray⟩) = s.size + (j + 1)) := size_zeros s (j + 1)
              have HM2 : Hid (strLen (.string ⟨(s.data.toList ++ List.replicate j 0).toArray⟩) = s.size + j) := size_zeros s j
              have H4 := Lib.hid h4
              obtain ⟨T1, hT1⟩ : ∃ x, x = s.data.toList ++ List.replicate (j + 1) 0 := ⟨_, rfl⟩
              obtain ⟨T0, hT0⟩ : ∃ x, x = s.data.toList ++ List.replicate j 0 := ⟨_, rfl⟩
              have HT1 := Lib.hid hT1
              rw [← hT0] at hz hadd HM2 ⊢
              rw [← hT1] at hadd HM
              obtain ⟨m, hm⟩ : ∃ m, s.size + j = m := ⟨_, rfl⟩
              rw [hm] at hz d4 d4' hz2
              clear hT1 hT0 h4 hm
              go_wp2_with fail
              go_roundw
              case rel => exact ⟨by first | trivial | rfl, j + 1, by have := H4.out; omega, by rw [HT1.out]⟩
              case measure =>
                have h1 := HM.out
                have h2 := HM2.out
                have h3 := H4.out
                show 4 - strLen (.string ⟨T1.toArray⟩) < 4 - strLen (.string ⟨T0.toArray⟩)
                rw [h1, h2]
                omega
            · have d4 : decide (((s.size + j : Nat) : Int) < 4) = false := decide_eq_false (by omega)
              have d4' := decide_eq_false h4
              have HN1 := Lib.hid (HNUM.out j w (by omega) hj)
              obtain ⟨T0, hT0⟩ : ∃ x, x = s.data.toList ++ List.replicate j 0 := ⟨_, rfl⟩
              rw [← hT0] at hz HN1 ⊢
              obtain ⟨m, hm⟩ : ∃ m, s.size + j = m := ⟨_, rfl⟩
              rw [hm] at hz d4 d4' hz2
              clear hT0 h4 hm hj HNUM
              go_wp2_with fail
              refine HN1.out.mono ?_
              rintro e w1 ⟨rfl, q1, rfl⟩
              obtain ⟨wa, hwa⟩ : ∃ x, x = w.drewN q1 := ⟨_, rfl⟩
              have HWA : Hid (Below w.heap.size w wa) := by rw [hwa]; exact below_drewN (Below.refl _ _) _
              rw [← hwa]
              clear hwa HN1
              go_wp2_with fail
              refine (HNS.out _).mono ?_
              rintro e w2 ⟨rfl, q2, rfl⟩
              obtain ⟨wb, hwb⟩ : ∃ x, x = wa.drewN q2 := ⟨_, rfl⟩
              have HWB : Hid (Below w.heap.size w wb) := by rw [hwb]; exact below_drewN HWA.out _
              rw [← hwb]
              clear hwb
              go_wp2_with fail
              refine (HNS.out _).mono ?_
              rintro e w3 ⟨rfl, q3, rfl⟩
              obtain ⟨wd, hwd⟩ : ∃ x, x = wb.drewN q3 := ⟨_, rfl⟩
              have HWD : Hid (Below w.heap.size w wd) := by rw [hwd]; exact below_drewN HWB.out _
              rw [← hwd]
              clear hwd
              go_wp2_with fail
              go_quiet ((first | (go_at_call 19; exact Calls.quiet_of_same (HON.out _ _)) | (go_at_call 20; exact Calls.quiet_of (HN4.out _ _))))
              go_wp2
              go_ret3
              exact ⟨rfl, below_drewN HWD.out _⟩
end Go.Proofs.YtmepaeppkeaifaaDoor
