/- The codec and the document: the same. -/
import Derived.Test.YtbpaongnehgodaaCoRefPut
import Derived.Test.YtbpaongnehgodaaCoRefRead
namespace Go.Proofs.Ytbpaongnehgodaa
open Go.ChangeShapes Go.WideShapes Go.ChangeAt Go.RowKit
/-- A kind's letters. -/
def lets (k : Int) : List UInt8 := if 1 ≤ k ∧ k ≤ 10 then letsN k.toNat else [63]
theorem rhas_any (k : Int) (w : World) : Calls Try.prog 26 #[.int .i64 k] w (Ret (txt (lets k)) w) := by
  by_cases h : 1 ≤ k ∧ k ≤ 10
  · have e : lets k = letsN k.toNat := by unfold lets; rw [if_pos h]
    have e2 : ((k.toNat : Nat) : Int) = k := by omega
    rw [e]
    have := rhas_in k.toNat (by omega) w
    rwa [e2] at this
  · have e : lets k = [63] := by unfold lets; rw [if_neg h]
    rw [e]
    exact rhas_out k h w
theorem lets_len (k : Int) : (lets k).length ≤ 10 := by
  rcases kinds k with rfl | rfl | rfl | rfl | rfl | rfl | rfl | rfl | rfl | rfl | h
  iterate 10
    · decide
  · unfold lets; rw [if_neg h]; decide
theorem lets_some {k : Int} (h : isK k = true) : lets k ≠ [63] := by
  rcases kinds k with rfl | rfl | rfl | rfl | rfl | rfl | rfl | rfl | rfl | rfl | hk
  iterate 10
    · decide
  · exact absurd (of_decide_eq_true h) hk
theorem lets_none {k : Int} (h : isK k = false) : lets k = [63] := by
  unfold lets; rw [if_neg (of_decide_eq_false h)]
theorem stC_hit {b d e n : Int} (h : bits BinOp.and IntKind.i64 b d ≠ 0) : stC b e d n = (n, e) := by unfold stC; rw [if_neg (by simp [h])]
theorem stC_miss {b d e n : Int} (h : bits BinOp.and IntKind.i64 b d = 0) : stC b e d n = (n, if n = 0 then e else 3) := by
  unfold stC
  by_cases hn : n = 0
  · rw [if_neg (by simp [hn]), if_pos hn]
  · rw [if_pos ⟨h, hn⟩, if_neg hn]
theorem stP_hit {b d n : Int} {l : List Int} (h : bits BinOp.and IntKind.i64 b d ≠ 0) : stP b l d n = (n, l ++ [n]) := by unfold stP; rw [if_neg h]
theorem stP_miss {b d n : Int} {l : List Int} (h : bits BinOp.and IntKind.i64 b d = 0) : stP b l d n = (n, l) := by unfold stP; rw [if_pos h]
theorem stR_hit {b d n : Int} {x : ByteArray × Int} (h : bits BinOp.and IntKind.i64 b d ≠ 0) : stR b x d n = rd x.1 x.2 := by unfold stR; rw [if_neg h]
theorem stR_miss {b d n : Int} {x : ByteArray × Int} (h : bits BinOp.and IntKind.i64 b d = 0) : stR b x d n = (n, x) := by unfold stR; rw [if_pos h]
/-- Bits. -/
def bitsDone : Prop := True
theorem bt_0_1 : bits BinOp.and IntKind.i64 0 1 = 0 := by decide +kernel
theorem bt_0_2 : bits BinOp.and IntKind.i64 0 2 = 0 := by decide +kernel
theorem bt_0_4 : bits BinOp.and IntKind.i64 0 4 = 0 := by decide +kernel
theorem bt_0_8 : bits BinOp.and IntKind.i64 0 8 = 0 := by decide +kernel
theorem bt_0_16 : bits BinOp.and IntKind.i64 0 16 = 0 := by decide +kernel
theorem bt_0_32 : bits BinOp.and IntKind.i64 0 32 = 0 := by decide +kernel
theorem bt_1_1 : bits BinOp.and IntKind.i64 1 1 ≠ 0 := by decide +kernel
theorem bt_1_2 : bits BinOp.and IntKind.i64 1 2 = 0 := by decide +kernel
theorem bt_1_4 : bits BinOp.and IntKind.i64 1 4 = 0 := by decide +kernel
theorem bt_1_8 : bits BinOp.and IntKind.i64 1 8 = 0 := by decide +kernel
theorem bt_1_16 : bits BinOp.and IntKind.i64 1 16 = 0 := by decide +kernel
theorem bt_1_32 : bits BinOp.and IntKind.i64 1 32 = 0 := by decide +kernel
theorem bt_18_1 : bits BinOp.and IntKind.i64 18 1 = 0 := by decide +kernel
theorem bt_18_2 : bits BinOp.and IntKind.i64 18 2 ≠ 0 := by decide +kernel
theorem bt_18_4 : bits BinOp.and IntKind.i64 18 4 = 0 := by decide +kernel
theorem bt_18_8 : bits BinOp.and IntKind.i64 18 8 = 0 := by decide +kernel
theorem bt_18_16 : bits BinOp.and IntKind.i64 18 16 ≠ 0 := by decide +kernel
theorem bt_18_32 : bits BinOp.and IntKind.i64 18 32 = 0 := by decide +kernel
theorem bt_26_1 : bits BinOp.and IntKind.i64 26 1 = 0 := by decide +kernel
theorem bt_26_2 : bits BinOp.and IntKind.i64 26 2 ≠ 0 := by decide +kernel
theorem bt_26_4 : bits BinOp.and IntKind.i64 26 4 = 0 := by decide +kernel
theorem bt_26_8 : bits BinOp.and IntKind.i64 26 8 ≠ 0 := by decide +kernel
theorem bt_26_16 : bits BinOp.and IntKind.i64 26 16 ≠ 0 := by decide +kernel
theorem bt_26_32 : bits BinOp.and IntKind.i64 26 32 = 0 := by decide +kernel
theorem bt_58_1 : bits BinOp.and IntKind.i64 58 1 = 0 := by decide +kernel
theorem bt_58_2 : bits BinOp.and IntKind.i64 58 2 ≠ 0 := by decide +kernel
theorem bt_58_4 : bits BinOp.and IntKind.i64 58 4 = 0 := by decide +kernel
theorem bt_58_8 : bits BinOp.and IntKind.i64 58 8 ≠ 0 := by decide +kernel
theorem bt_58_16 : bits BinOp.and IntKind.i64 58 16 ≠ 0 := by decide +kernel
theorem bt_58_32 : bits BinOp.and IntKind.i64 58 32 ≠ 0 := by decide +kernel
theorem bt_63_1 : bits BinOp.and IntKind.i64 63 1 ≠ 0 := by decide +kernel
theorem bt_63_2 : bits BinOp.and IntKind.i64 63 2 ≠ 0 := by decide +kernel
theorem bt_63_4 : bits BinOp.and IntKind.i64 63 4 ≠ 0 := by decide +kernel
theorem bt_63_8 : bits BinOp.and IntKind.i64 63 8 ≠ 0 := by decide +kernel
theorem bt_63_16 : bits BinOp.and IntKind.i64 63 16 ≠ 0 := by decide +kernel
theorem bt_63_32 : bits BinOp.and IntKind.i64 63 32 ≠ 0 := by decide +kernel
theorem hasB_1 : hasB 1 = 0 := by decide
theorem isK_1 : isK 1 = true := by decide
theorem lets_1 : lets 1 = letsN 1 := by decide
theorem hasB_2 : hasB 2 = 63 := by decide
theorem isK_2 : isK 2 = true := by decide
theorem lets_2 : lets 2 = letsN 2 := by decide
theorem hasB_3 : hasB 3 = 1 := by decide
theorem isK_3 : isK 3 = true := by decide
theorem lets_3 : lets 3 = letsN 3 := by decide
theorem hasB_4 : hasB 4 = 18 := by decide
theorem isK_4 : isK 4 = true := by decide
theorem lets_4 : lets 4 = letsN 4 := by decide
theorem hasB_5 : hasB 5 = 26 := by decide
theorem isK_5 : isK 5 = true := by decide
theorem lets_5 : lets 5 = letsN 5 := by decide
theorem hasB_6 : hasB 6 = 26 := by decide
theorem isK_6 : isK 6 = true := by decide
theorem lets_6 : lets 6 = letsN 6 := by decide
theorem hasB_7 : hasB 7 = 58 := by decide
theorem isK_7 : isK 7 = true := by decide
theorem lets_7 : lets 7 = letsN 7 := by decide
theorem hasB_8 : hasB 8 = 18 := by decide
theorem isK_8 : isK 8 = true := by decide
theorem lets_8 : lets 8 = letsN 8 := by decide
theorem hasB_9 : hasB 9 = 18 := by decide
theorem isK_9 : isK 9 = true := by decide
theorem lets_9 : lets 9 = letsN 9 := by decide
theorem hasB_10 : hasB 10 = 0 := by decide
theorem isK_10 : isK 10 = true := by decide
theorem lets_10 : lets 10 = letsN 10 := by decide
/-- Has a command its form? -/
def rightV (c : Cm) : Bool := isK c.k && cmEq (restC c (lets c.k) (lets c.k).length) zeroC
theorem chk_right (c : Cm) : chkV c = if rightV c = true then 0 else 3 := by
  obtain ⟨k, i, m, o, s, q, p⟩ := c
  rcases kinds k with rfl | rfl | rfl | rfl | rfl | rfl | rfl | rfl | rfl | rfl | h
  · unfold chkV rightV
    simp only [isK_1, if_true, eachV, hasB_1, lets_1, stC_miss bt_0_1, stC_miss bt_0_2, stC_miss bt_0_4, stC_miss bt_0_8, stC_miss bt_0_16, stC_miss bt_0_32, letsN, restC, List.length_nil, List.take_zero, List.foldl_nil, Bool.true_and]
    simp only [cmEq, zeroC]
    simp
    try (repeat (first | split | omega | (simp_all; done)))
  · unfold chkV rightV
    simp only [isK_2, if_true, eachV, hasB_2, lets_2, stC_hit bt_63_1, stC_hit bt_63_2, stC_hit bt_63_4, stC_hit bt_63_8, stC_hit bt_63_16, stC_hit bt_63_32, letsN, restC, List.length_cons, List.length_nil, List.take_succ_cons, List.take_zero, List.foldl_cons, List.foldl_nil, Bool.true_and]
    simp only [withL, cmEq, zeroC]
    simp
    try (repeat (first | split | omega | (simp_all; done)))
  · unfold chkV rightV
    simp only [isK_3, if_true, eachV, hasB_3, lets_3, stC_hit bt_1_1, stC_miss bt_1_2, stC_miss bt_1_4, stC_miss bt_1_8, stC_miss bt_1_16, stC_miss bt_1_32, letsN, restC, List.length_cons, List.length_nil, List.take_succ_cons, List.take_zero, List.foldl_cons, List.foldl_nil, Bool.true_and]
    simp only [withL, cmEq, zeroC]
    simp
    try (repeat (first | split | omega | (simp_all; done)))
  · unfold chkV rightV
    simp only [isK_4, if_true, eachV, hasB_4, lets_4, stC_miss bt_18_1, stC_hit bt_18_2, stC_miss bt_18_4, stC_miss bt_18_8, stC_hit bt_18_16, stC_miss bt_18_32, letsN, restC, List.length_cons, List.length_nil, List.take_succ_cons, List.take_zero, List.foldl_cons, List.foldl_nil, Bool.true_and]
    simp only [withL, cmEq, zeroC]
    simp
    try (repeat (first | split | omega | (simp_all; done)))
  · unfold chkV rightV
    simp only [isK_5, if_true, eachV, hasB_5, lets_5, stC_miss bt_26_1, stC_hit bt_26_2, stC_miss bt_26_4, stC_hit bt_26_8, stC_hit bt_26_16, stC_miss bt_26_32, letsN, restC, List.length_cons, List.length_nil, List.take_succ_cons, List.take_zero, List.foldl_cons, List.foldl_nil, Bool.true_and]
    simp only [withL, cmEq, zeroC]
    simp
    try (repeat (first | split | omega | (simp_all; done)))
  · unfold chkV rightV
    simp only [isK_6, if_true, eachV, hasB_6, lets_6, stC_miss bt_26_1, stC_hit bt_26_2, stC_miss bt_26_4, stC_hit bt_26_8, stC_hit bt_26_16, stC_miss bt_26_32, letsN, restC, List.length_cons, List.length_nil, List.take_succ_cons, List.take_zero, List.foldl_cons, List.foldl_nil, Bool.true_and]
    simp only [withL, cmEq, zeroC]
    simp
    try (repeat (first | split | omega | (simp_all; done)))
  · unfold chkV rightV
    simp only [isK_7, if_true, eachV, hasB_7, lets_7, stC_miss bt_58_1, stC_hit bt_58_2, stC_miss bt_58_4, stC_hit bt_58_8, stC_hit bt_58_16, stC_hit bt_58_32, letsN, restC, List.length_cons, List.length_nil, List.take_succ_cons, List.take_zero, List.foldl_cons, List.foldl_nil, Bool.true_and]
    simp only [withL, cmEq, zeroC]
    simp
    try (repeat (first | split | omega | (simp_all; done)))
  · unfold chkV rightV
    simp only [isK_8, if_true, eachV, hasB_8, lets_8, stC_miss bt_18_1, stC_hit bt_18_2, stC_miss bt_18_4, stC_miss bt_18_8, stC_hit bt_18_16, stC_miss bt_18_32, letsN, restC, List.length_cons, List.length_nil, List.take_succ_cons, List.take_zero, List.foldl_cons, List.foldl_nil, Bool.true_and]
    simp only [withL, cmEq, zeroC]
    simp
    try (repeat (first | split | omega | (simp_all; done)))
  · unfold chkV rightV
    simp only [isK_9, if_true, eachV, hasB_9, lets_9, stC_miss bt_18_1, stC_hit bt_18_2, stC_miss bt_18_4, stC_miss bt_18_8, stC_hit bt_18_16, stC_miss bt_18_32, letsN, restC, List.length_cons, List.length_nil, List.take_succ_cons, List.take_zero, List.foldl_cons, List.foldl_nil, Bool.true_and]
    simp only [withL, cmEq, zeroC]
    simp
    try (repeat (first | split | omega | (simp_all; done)))
  · unfold chkV rightV
    simp only [isK_10, if_true, eachV, hasB_10, lets_10, stC_miss bt_0_1, stC_miss bt_0_2, stC_miss bt_0_4, stC_miss bt_0_8, stC_miss bt_0_16, stC_miss bt_0_32, letsN, restC, List.length_nil, List.take_zero, List.foldl_nil, Bool.true_and]
    simp only [cmEq, zeroC]
    simp
    try (repeat (first | split | omega | (simp_all; done)))
  · have e : isK k = false := decide_eq_false h
    unfold chkV rightV
    simp [e]
theorem puts_nums (c : Cm) (h : isK c.k = true) : putsL c = numsL c (lets c.k) (lets c.k).length := by
  obtain ⟨k, i, m, o, s, q, p⟩ := c
  rcases kinds k with rfl | rfl | rfl | rfl | rfl | rfl | rfl | rfl | rfl | rfl | hk
  · unfold putsL numsL
    simp only [eachV, hasB_1, lets_1, stP_miss bt_0_1, stP_miss bt_0_2, stP_miss bt_0_4, stP_miss bt_0_8, stP_miss bt_0_16, stP_miss bt_0_32, letsN, List.take_length, List.map_nil]
    try simp [valL]
  · unfold putsL numsL
    simp only [eachV, hasB_2, lets_2, stP_hit bt_63_1, stP_hit bt_63_2, stP_hit bt_63_4, stP_hit bt_63_8, stP_hit bt_63_16, stP_hit bt_63_32, letsN, List.take_length, List.map_cons, List.map_nil]
    try simp [valL]
  · unfold putsL numsL
    simp only [eachV, hasB_3, lets_3, stP_hit bt_1_1, stP_miss bt_1_2, stP_miss bt_1_4, stP_miss bt_1_8, stP_miss bt_1_16, stP_miss bt_1_32, letsN, List.take_length, List.map_cons, List.map_nil]
    try simp [valL]
  · unfold putsL numsL
    simp only [eachV, hasB_4, lets_4, stP_miss bt_18_1, stP_hit bt_18_2, stP_miss bt_18_4, stP_miss bt_18_8, stP_hit bt_18_16, stP_miss bt_18_32, letsN, List.take_length, List.map_cons, List.map_nil]
    try simp [valL]
  · unfold putsL numsL
    simp only [eachV, hasB_5, lets_5, stP_miss bt_26_1, stP_hit bt_26_2, stP_miss bt_26_4, stP_hit bt_26_8, stP_hit bt_26_16, stP_miss bt_26_32, letsN, List.take_length, List.map_cons, List.map_nil]
    try simp [valL]
  · unfold putsL numsL
    simp only [eachV, hasB_6, lets_6, stP_miss bt_26_1, stP_hit bt_26_2, stP_miss bt_26_4, stP_hit bt_26_8, stP_hit bt_26_16, stP_miss bt_26_32, letsN, List.take_length, List.map_cons, List.map_nil]
    try simp [valL]
  · unfold putsL numsL
    simp only [eachV, hasB_7, lets_7, stP_miss bt_58_1, stP_hit bt_58_2, stP_miss bt_58_4, stP_hit bt_58_8, stP_hit bt_58_16, stP_hit bt_58_32, letsN, List.take_length, List.map_cons, List.map_nil]
    try simp [valL]
  · unfold putsL numsL
    simp only [eachV, hasB_8, lets_8, stP_miss bt_18_1, stP_hit bt_18_2, stP_miss bt_18_4, stP_miss bt_18_8, stP_hit bt_18_16, stP_miss bt_18_32, letsN, List.take_length, List.map_cons, List.map_nil]
    try simp [valL]
  · unfold putsL numsL
    simp only [eachV, hasB_9, lets_9, stP_miss bt_18_1, stP_hit bt_18_2, stP_miss bt_18_4, stP_miss bt_18_8, stP_hit bt_18_16, stP_miss bt_18_32, letsN, List.take_length, List.map_cons, List.map_nil]
    try simp [valL]
  · unfold putsL numsL
    simp only [eachV, hasB_10, lets_10, stP_miss bt_0_1, stP_miss bt_0_2, stP_miss bt_0_4, stP_miss bt_0_8, stP_miss bt_0_16, stP_miss bt_0_32, letsN, List.take_length, List.map_nil]
    try simp [valL]
  · exact absurd (of_decide_eq_true h) hk
theorem read_rdJ (n : Int) (s : ByteArray) (e : Int) (h : isK n = true) : eachV (stR (hasB n)) (s, e) ⟨n, 0, 0, 0, 0, 0, 0⟩ = rdJ (lets n) (⟨n, 0, 0, 0, 0, 0, 0⟩, (s, e)) (lets n).length := by
  rcases kinds n with rfl | rfl | rfl | rfl | rfl | rfl | rfl | rfl | rfl | rfl | hk
  · unfold rdJ
    rw [List.take_length]
    simp only [eachV, hasB_1, lets_1, stR_miss bt_0_1, stR_miss bt_0_2, stR_miss bt_0_4, stR_miss bt_0_8, stR_miss bt_0_16, stR_miss bt_0_32, letsN, rdL]
    try simp [withL]
  · unfold rdJ
    rw [List.take_length]
    simp only [eachV, hasB_2, lets_2, stR_hit bt_63_1, stR_hit bt_63_2, stR_hit bt_63_4, stR_hit bt_63_8, stR_hit bt_63_16, stR_hit bt_63_32, letsN, rdL]
    try simp [withL]
  · unfold rdJ
    rw [List.take_length]
    simp only [eachV, hasB_3, lets_3, stR_hit bt_1_1, stR_miss bt_1_2, stR_miss bt_1_4, stR_miss bt_1_8, stR_miss bt_1_16, stR_miss bt_1_32, letsN, rdL]
    try simp [withL]
  · unfold rdJ
    rw [List.take_length]
    simp only [eachV, hasB_4, lets_4, stR_miss bt_18_1, stR_hit bt_18_2, stR_miss bt_18_4, stR_miss bt_18_8, stR_hit bt_18_16, stR_miss bt_18_32, letsN, rdL]
    try simp [withL]
  · unfold rdJ
    rw [List.take_length]
    simp only [eachV, hasB_5, lets_5, stR_miss bt_26_1, stR_hit bt_26_2, stR_miss bt_26_4, stR_hit bt_26_8, stR_hit bt_26_16, stR_miss bt_26_32, letsN, rdL]
    try simp [withL]
  · unfold rdJ
    rw [List.take_length]
    simp only [eachV, hasB_6, lets_6, stR_miss bt_26_1, stR_hit bt_26_2, stR_miss bt_26_4, stR_hit bt_26_8, stR_hit bt_26_16, stR_miss bt_26_32, letsN, rdL]
    try simp [withL]
  · unfold rdJ
    rw [List.take_length]
    simp only [eachV, hasB_7, lets_7, stR_miss bt_58_1, stR_hit bt_58_2, stR_miss bt_58_4, stR_hit bt_58_8, stR_hit bt_58_16, stR_hit bt_58_32, letsN, rdL]
    try simp [withL]
  · unfold rdJ
    rw [List.take_length]
    simp only [eachV, hasB_8, lets_8, stR_miss bt_18_1, stR_hit bt_18_2, stR_miss bt_18_4, stR_miss bt_18_8, stR_hit bt_18_16, stR_miss bt_18_32, letsN, rdL]
    try simp [withL]
  · unfold rdJ
    rw [List.take_length]
    simp only [eachV, hasB_9, lets_9, stR_miss bt_18_1, stR_hit bt_18_2, stR_miss bt_18_4, stR_miss bt_18_8, stR_hit bt_18_16, stR_miss bt_18_32, letsN, rdL]
    try simp [withL]
  · unfold rdJ
    rw [List.take_length]
    simp only [eachV, hasB_10, lets_10, stR_miss bt_0_1, stR_miss bt_0_2, stR_miss bt_0_4, stR_miss bt_0_8, stR_miss bt_0_16, stR_miss bt_0_32, letsN, rdL]
    try simp [withL]
  · exact absurd (of_decide_eq_true h) hk
theorem ofl (s : ByteArray) : (⟨s.data.toList.toArray⟩ : ByteArray) = s := by cases s; simp
theorem rd_enc (n : Int) (hn : -9223372036854775808 ≤ n ∧ n ≤ 9223372036854775807) (more : List UInt8) : rd ⟨(encN (codeN n) ++ more).toArray⟩ 0 = (n, ⟨more.toArray⟩, 0) := by
  unfold rd readV
  rw [if_neg (by simp)]
  have e1 : getR 0 ((⟨(encN (codeN n) ++ more).toArray⟩ : ByteArray).data.toList) = .ok (codeN n) (encN (codeN n)).length := by
    simpa using getR_enc more 0 (codeN n) (by decide) (by have := codeN_lt hn; simpa using this) (fun h => absurd h (Nat.lt_irrefl 0))
  rw [e1]
  have e2 : (⟨(encN (codeN n) ++ more).toArray⟩ : ByteArray).extract (encN (codeN n)).length (⟨(encN (codeN n) ++ more).toArray⟩ : ByteArray).size = ⟨more.toArray⟩ := by
    apply ByteArray.ext
    rw [ByteArray.data_extract]
    apply Array.ext'
    show (Array.extract (encN (codeN n) ++ more).toArray _ (encN (codeN n) ++ more).toArray.size).toList = _
    simp
  simp only [numN_code, e2, if_true]
theorem rd_ok {s : ByteArray} {e : Int} (h : (rd s e).2.2 = 0) : e = 0 ∧ (-9223372036854775808 ≤ (rd s e).1 ∧ (rd s e).1 ≤ 9223372036854775807) ∧ s.data.toList = encN (codeN (rd s e).1) ++ (rd s e).2.1.data.toList := by
  have hin : -9223372036854775808 ≤ (rd s e).1 ∧ (rd s e).1 ≤ 9223372036854775807 := readV_in _ s e
  by_cases he : e = 0
  · refine ⟨he, hin, ?_⟩
    subst he
    unfold rd readV at h ⊢
    rw [if_neg (by simp)] at h ⊢
    cases hg : getR 0 s.data.toList with
    | short => rw [hg] at h; cases h
    | form => rw [hg] at h; cases h
    | ok v m =>
      obtain ⟨h1, _, _, h4, _⟩ := enc_getR s.data.toList 0 v m (by decide) hg
      simp only [if_true]
      rw [codeN_num, ← h1]
      have e2 : (s.extract m s.size).data.toList = s.data.toList.drop m := by
        rw [ByteArray.data_extract]
        show (Array.extract s.data m s.data.size).toList = _
        simp
        exact List.take_of_length_le (by rw [List.length_drop]; exact Nat.le_refl _)
      rw [e2, List.take_append_drop]
  · exfalso
    unfold rd readV at h
    rw [if_pos he] at h
    exact he h
/-- A command with numbers, by letters. -/
def setL : Cm → List UInt8 → List Int → Cm
  | c, a :: L, n :: ns => setL (withL c a.toNat n) L ns
  | c, _, _ => c
theorem rdL_enc (more : List UInt8) : ∀ (L : List UInt8) (ns : List Int) (c : Cm), ns.length = L.length → (∀ n, n ∈ ns → -9223372036854775808 ≤ n ∧ n ≤ 9223372036854775807) → rdL L (c, (⟨(encL ns ++ more).toArray⟩, 0)) = (setL c L ns, (⟨more.toArray⟩, 0))
  | [], [], c, _, _ => rfl
  | a :: L, n :: ns, c, h, hr => by
    have e := rd_enc n (hr n (List.mem_cons_self ..)) (encL ns ++ more)
    simp only [rdL, encL, List.append_assoc]
    rw [e]
    exact rdL_enc more L ns _ (by simpa using h) (fun m hm => hr m (List.mem_cons_of_mem _ hm))
  | [], _ :: _, _, h, _ => by simp at h
  | _ :: _, [], _, h, _ => by simp at h
theorem rdL_ok : ∀ (L : List UInt8) (c : Cm) (s : ByteArray) (e : Int), (rdL L (c, (s, e))).2.2 = 0 → e = 0 ∧ ∃ ns : List Int, ns.length = L.length ∧ (∀ n, n ∈ ns → -9223372036854775808 ≤ n ∧ n ≤ 9223372036854775807) ∧ s.data.toList = encL ns ++ (rdL L (c, (s, e))).2.1.data.toList ∧ (rdL L (c, (s, e))).1 = setL c L ns
  | [], c, s, e, h => ⟨h, [], rfl, by simp, by simp [encL, rdL], rfl⟩
  | a :: L, c, s, e, h => by
    obtain ⟨h1, ns, h2, h3, h4, h5⟩ := rdL_ok L (withL c a.toNat (rd s e).1) (rd s e).2.1 (rd s e).2.2 h
    obtain ⟨k1, k2, k3⟩ := rd_ok h1
    refine ⟨k1, (rd s e).1 :: ns, by simp [h2], ?_, ?_, h5⟩
    · intro n hn
      rcases List.mem_cons.1 hn with rfl | hn
      · exact k2
      · exact h3 n hn
    · simp only [encL, List.append_assoc]
      rw [k3]
      congr 1
end Go.Proofs.Ytbpaongnehgodaa
