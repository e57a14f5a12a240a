/- The document's layer 7: Get. -/
import Derived.Test.YtbpaongnehgodaaNumGet
namespace Go.Proofs.Ytbpaongnehgodaa
open Go.ChangeShapes Go.WideShapes Go.ChangeAt Go.RowKit
/-- What the document's Get tells of the bytes. -/
def refV : GetA → Value
  | .short => .tuple #[.int .i64 0, .int .i64 0, .int .i64 4]
  | .form => .tuple #[.int .i64 0, .int .i64 0, .int .i64 3]
  | .ok v m => .tuple #[.int .i64 (numN v), .int .i64 (m : Nat), .int .i64 0]
/-- What bytes of seven bits come to. -/
def valN : List UInt8 → Nat
  | [] => 0
  | b :: l => b.toNat % 128 + 128 * valN l
theorem valN_append (l : List UInt8) (b : UInt8) : valN (l ++ [b]) = valN l + 128 ^ l.length * (b.toNat % 128) := by
  induction l with
  | nil => simp [valN]
  | cons a l ih =>
    simp only [List.cons_append, valN, ih, List.length_cons, Nat.pow_succ]
    rw [Nat.mul_add, ← Nat.mul_assoc, Nat.mul_comm 128 (128 ^ l.length)]
    omega
theorem valN_take (s : ByteArray) (n : Nat) (h : n < s.size) : valN (s.data.toList.take (n + 1)) = valN (s.data.toList.take n) + 128 ^ n * (s[n].toNat % 128) := by
  have e : s.data.toList.take (n + 1) = s.data.toList.take n ++ [s[n]] := by
    rw [List.take_succ_eq_append_getElem (by simpa using h)]; rfl
  rw [e, valN_append]
  simp
  rw [Nat.min_eq_left (by have := h; simp only [ByteArray.size] at this; omega)]
/-- The bytes behind j, of n + 1. -/
def behind (s : ByteArray) (n j : Nat) : Nat := valN ((s.data.toList.take (n + 1)).drop j)
theorem behind_end (s : ByteArray) (n : Nat) : behind s n (n + 1) = 0 := by
  unfold behind
  rw [List.drop_eq_nil_of_le (by simp; omega)]
  rfl
theorem behind_step (s : ByteArray) (n j : Nat) (hn : n < s.size) (hj : j ≤ n) : behind s n j = s[j].toNat % 128 + 128 * behind s n (j + 1) := by
  unfold behind
  have hl : j < (s.data.toList.take (n + 1)).length := by
    have : s.data.toList.length = s.size := by simp
    rw [List.length_take, this]; omega
  rw [List.drop_eq_getElem_cons hl, valN]
  congr 2
  simp
  rfl
theorem behind_le (s : ByteArray) (n : Nat) (hn : n < s.size) : ∀ j, j ≤ n + 1 → behind s n j ≤ behind s n 0
  | 0, _ => Nat.le_refl _
  | j + 1, h => by
    have h1 := behind_step s n j hn (by omega)
    have h2 := behind_le s n hn j (by omega)
    omega
theorem behind_zero (s : ByteArray) (n : Nat) (hn : n < s.size) : behind s n 0 = valN (s.data.toList.take n) + 128 ^ n * (s[n].toNat % 128) := by
  unfold behind
  rw [List.drop_zero, valN_take s n hn]
theorem refV_ok (n x v : Nat) : refV (GetA.shift n v (GetA.ok (x % 128) 1)) = .tuple #[.int .i64 (numN (v + 128 ^ n * (x % 128))), .int .i64 ((n + 1 : Nat) : Int), .int .i64 0] := by
  simp only [GetA.shift, refV, Nat.add_comm 1 n]
set_option maxHeartbeats 2000000 in
theorem refget_any (s : ByteArray) (hs : s.size ≤ 1000000) (w : World) :
    Calls Try.prog 49 #[.string s] w (RetS (refV (getR 0 s.data.toList)) w) := by
  obtain ⟨G, hG⟩ : ∃ G, getR 0 s.data.toList = G := ⟨_, rfl⟩
  rw [hG]
  have hs2 : (s.size : Int) ≤ 1000000 := by omega
  have HLIM : Hid (∀ v m, G = .ok v m → v < 18446744073709551616) := fun v m e => by
    have := (enc_getR s.data.toList 0 v m (by decide) (hG.trans e)).2.1
    omega
  have HG := Lib.hid hG
  clear hs hG
  go_enter Try.func49, Try.ntmps49
  go_wp2
  go_loopw [5] (fun iv wr => w = wr ∧ ∃ n : Nat, n ≤ s.size ∧ n ≤ 9 ∧ iv = .int .i64 n ∧ G = (getR n (s.data.toList.drop n)).shift n (valN (s.data.toList.take n))) (fun iv _ => s.size - (intOf iv).toNat)
  case atStart => exact ⟨rfl, 0, Nat.zero_le _, by decide, rfl, by rw [List.take_zero, valN, shift_zero]; exact HG.out.symm⟩
  case round =>
    obtain ⟨rfl, n, hi, hi9, rfl, hg⟩ := hrel
    have hi2 : (n : Int) ≤ s.size := by omega
    by_cases hlt : n < s.size
    · have hlt2 : (n : Int) < s.size := by omega
      have hb := UInt8.toNat_lt s[n]
      have dl : ((n : Int) == (s.size : Int)) = false := by rw [beq_eq_false_iff_ne]; omega
      have HD := Lib.hid (behind_zero s n hlt)
      have HT := Lib.hid (valN_take s n hlt)
      rw [drop_step s n hlt] at hg
      by_cases x7 : 127 < s[n].toNat
      · have d7 := decide_eq_true x7
        have d7' : decide (127 < (s[n].toNat : Int)) = true := by simp; omega
        by_cases i9 : n = 9
        · subst i9
          rw [getR, if_pos (Or.inr ⟨by omega, rfl⟩)] at hg
          have d1 : decide (1 < s[9].toNat) = true := by simp; omega
          have d1' : decide ((1 : Int) < (s[9].toNat : Int)) = true := by simp; omega
          have HV : Hid (refV G = refV GetA.form) := by show _ = _; rw [hg]; rfl
          clear hg hb
          go_wp2
          go_ret3
          exact ⟨by rw [HV.out]; rfl, rfl⟩
        · have d9 : decide ((n : Int) < 9) = true := by simp; omega
          have d9' : decide (n < 9) = true := by simp; omega
          rw [getR, if_neg (by omega), if_neg (by omega), shift_step, ← HT.out] at hg
          have HGG := Lib.hid hg
          have HI : Hid (n + 1 ≤ 9) := by show _ ≤ _; omega
          clear hg hb hi9
          go_wp2_with fail
          go_roundw
          case rel => exact ⟨by first | trivial | rfl, n + 1, by omega, HI.out, by go_num, HGG.out⟩
          case measure => simp [intOf]; omega
      · have d7 := decide_eq_false x7
        have d7' : decide (127 < (s[n].toNat : Int)) = false := by simp; omega
        by_cases i9 : n = 9
        · have e9 : ((n : Int) == 9) = true := by rw [beq_iff_eq]; omega
          by_cases x1 : 1 < s[n].toNat
          · rw [getR, if_pos (Or.inr ⟨x1, i9⟩)] at hg
            subst i9
            have d1 := decide_eq_true x1
            have d1' : decide ((1 : Int) < (s[9].toNat : Int)) = true := by simp; omega
            have HV : Hid (refV G = refV GetA.form) := by show _ = _; rw [hg]; rfl
            clear hg hb hi9
            go_wp2
            go_ret3
            exact ⟨by rw [HV.out]; rfl, rfl⟩
          · by_cases x0 : s[n].toNat = 0
            · rw [getR, if_pos (Or.inl ⟨x0, by omega⟩)] at hg
              subst i9
              have d1 := decide_eq_false x1
              have d1' : decide ((1 : Int) < (s[9].toNat : Int)) = false := by simp; omega
              have d0 : ((s[9].toNat : Int) == 0) = true := by rw [beq_iff_eq]; omega
              have HV : Hid (refV G = refV GetA.form) := by show _ = _; rw [hg]; rfl
              clear hg hb hi9
              go_wp2
              go_ret3
              exact ⟨by rw [HV.out]; rfl, rfl⟩
            · have hlt9 : 9 < s.size := by omega
              have d1 : decide (1 < s[9].toNat) = false := by subst i9; exact decide_eq_false x1
              have d1' : decide ((1 : Int) < (s[9].toNat : Int)) = false := by subst i9; simp; omega
              have d0 : ((s[n].toNat : Int) == 0) = false := by rw [beq_eq_false_iff_ne]; omega
              have dp : decide (0 < n) = true := by simp; omega
              have dp2 : decide (0 < (n : Int)) = true := by simp; omega
              rw [getR, if_neg (by omega), if_pos (by omega)] at hg
              have HV : Hid (refV G = refV (GetA.shift n (valN (s.data.toList.take n)) (GetA.ok (s[n].toNat % 128) 1))) := by show _ = _; rw [hg]
              rw [refV_ok, ← HD.out] at HV
              have hlim : behind s n 0 < 18446744073709551616 := by
                rw [HD.out]
                exact HLIM.out _ _ hg
              have HLT := Lib.hid hlt
              have HLIM2 := Lib.hid hlim
              have HN9 : Hid (n ≤ 9) := by show _ ≤ _; omega
              clear hg hb hi9 hlim x1 x0 i9
              go_wp2_with fail
              go_loopw [6, 7] (fun zv iv wr => w = wr ∧ ∃ j : Nat, j ≤ n + 1 ∧ iv = .int .i64 ((j : Int) - 1) ∧ zv = .int .u64 (behind s n j : Nat)) (fun _ iv _ => (intOf iv + 1).toNat)
              case atStart => exact ⟨rfl, n + 1, by omega, by go_num, by rw [behind_end]; rfl⟩
              case round =>
                obtain ⟨rfl, j, hj, rfl, rfl⟩ := hrel
                have hz := Nat.lt_of_le_of_lt (behind_le s n HLT.out j hj) HLIM2.out
                cases j with
                | zero =>
                  obtain ⟨z, hzz⟩ : ∃ z, z = behind s n 0 := ⟨_, rfl⟩
                  rw [← hzz] at hz HV ⊢
                  have hz2 : (z : Int) ≤ 18446744073709551615 := by omega
                  have hn9 : (n : Int) ≤ 9 := by have := HN9.out; omega
                  by_cases h2 : z % 2 = 0
                  · have db : ((z : Int) % 2 == 0) = true := by rw [beq_iff_eq]; omega
                    have HE : Hid (((z : Int) / 2) = numN z) := by show _ = _; unfold numN; rw [if_pos h2]; omega
                    have ew : IntKind.i64.wrap ((z : Int) / 2) = (z : Int) / 2 := by rw [IntKind.wrap_i64]; omega
                    clear hz hzz h2
                    go_wp2
                    go_ret3
                    refine ⟨?_, rfl⟩
                    rw [HV.out, ← HE.out]
                    rfl
                  · have db : ((z : Int) % 2 == 0) = false := by rw [beq_eq_false_iff_ne]; omega
                    have HE : Hid (-((z : Int) / 2) - 1 = numN z) := by show _ = _; unfold numN; rw [if_neg h2]; omega
                    have ew : IntKind.i64.wrap ((z : Int) / 2) = (z : Int) / 2 := by rw [IntKind.wrap_i64]; omega
                    clear hz hzz h2
                    go_wp2
                    go_ret3
                    refine ⟨?_, rfl⟩
                    rw [HV.out, ← HE.out]
                    rfl
                | succ k =>
                  have ej : ((k + 1 : Nat) : Int) - 1 = (k : Int) := by omega
                  rw [ej]
                  have hk2 : (k : Int) < s.size := by have := HLT.out; omega
                  have hk : k < s.size := by have := HLT.out; omega
                  have hbk := UInt8.toNat_lt s[k]
                  have hz3 := Nat.lt_of_le_of_lt (behind_le s n HLT.out k (by omega)) HLIM2.out
                  have HST := Lib.hid (behind_step s n k HLT.out (by omega))
                  have hz4 : (behind s n (k + 1) : Int) * 128 + (s[k].toNat : Int) % 128 ≤ 18446744073709551615 := by have := HST.out; omega
                  obtain ⟨z, hzz⟩ : ∃ z, z = behind s n (k + 1) := ⟨_, rfl⟩
                  rw [← hzz] at HST hz4 ⊢
                  have ew : IntKind.u64.wrap ((z : Int) * 128) = (z : Int) * 128 := by rw [IntKind.wrap_u64]; omega
                  have ew2 : IntKind.u64.wrap ((z : Int) * 128 + (s[k].toNat : Int) % 128) = (z : Int) * 128 + (s[k].toNat : Int) % 128 := by rw [IntKind.wrap_u64]; omega
                  clear hz hz3 hz4 hzz ej
                  go_wp2_with fail
                  go_roundw
                  case rel => exact ⟨by first | trivial | rfl, k, by omega, by go_num, by rw [HST.out]; go_num⟩
                  case measure => simp [intOf]; try omega
        · have e9 : ((n : Int) == 9) = false := by rw [beq_eq_false_iff_ne]; omega
          by_cases i0 : 0 < n
          · have dp := decide_eq_true i0
            have dp2 : decide (0 < (n : Int)) = true := by simp; omega
            by_cases x0 : s[n].toNat = 0
            · rw [getR, if_pos (Or.inl ⟨x0, i0⟩)] at hg
              have d0 : ((s[n].toNat : Int) == 0) = true := by rw [beq_iff_eq]; omega
              have HV : Hid (refV G = refV GetA.form) := by show _ = _; rw [hg]; rfl
              clear hg hb hi9 x0 i9
              go_wp2
              go_ret3
              exact ⟨by rw [HV.out]; rfl, rfl⟩
            · have d0 : ((s[n].toNat : Int) == 0) = false := by rw [beq_eq_false_iff_ne]; omega
              rw [getR, if_neg (by omega), if_pos (by omega)] at hg
              have HV : Hid (refV G = refV (GetA.shift n (valN (s.data.toList.take n)) (GetA.ok (s[n].toNat % 128) 1))) := by show _ = _; rw [hg]
              rw [refV_ok, ← HD.out] at HV
              have hlim : behind s n 0 < 18446744073709551616 := by
                rw [HD.out]
                exact HLIM.out _ _ hg
              have HLT := Lib.hid hlt
              have HLIM2 := Lib.hid hlim
              have HN9 : Hid (n ≤ 9) := by show _ ≤ _; omega
              clear hg hb hi9 hlim x0 i9
              go_wp2_with fail
              go_loopw [6, 7] (fun zv iv wr => w = wr ∧ ∃ j : Nat, j ≤ n + 1 ∧ iv = .int .i64 ((j : Int) - 1) ∧ zv = .int .u64 (behind s n j : Nat)) (fun _ iv _ => (intOf iv + 1).toNat)
              case atStart => exact ⟨rfl, n + 1, by omega, by go_num, by rw [behind_end]; rfl⟩
              case round =>
                obtain ⟨rfl, j, hj, rfl, rfl⟩ := hrel
                have hz := Nat.lt_of_le_of_lt (behind_le s n HLT.out j hj) HLIM2.out
                cases j with
                | zero =>
                  obtain ⟨z, hzz⟩ : ∃ z, z = behind s n 0 := ⟨_, rfl⟩
                  rw [← hzz] at hz HV ⊢
                  have hz2 : (z : Int) ≤ 18446744073709551615 := by omega
                  have hn9 : (n : Int) ≤ 9 := by have := HN9.out; omega
                  by_cases h2 : z % 2 = 0
                  · have db : ((z : Int) % 2 == 0) = true := by rw [beq_iff_eq]; omega
                    have HE : Hid (((z : Int) / 2) = numN z) := by show _ = _; unfold numN; rw [if_pos h2]; omega
                    have ew : IntKind.i64.wrap ((z : Int) / 2) = (z : Int) / 2 := by rw [IntKind.wrap_i64]; omega
                    clear hz hzz h2
                    go_wp2
                    go_ret3
                    refine ⟨?_, rfl⟩
                    rw [HV.out, ← HE.out]
                    rfl
                  · have db : ((z : Int) % 2 == 0) = false := by rw [beq_eq_false_iff_ne]; omega
                    have HE : Hid (-((z : Int) / 2) - 1 = numN z) := by show _ = _; unfold numN; rw [if_neg h2]; omega
                    have ew : IntKind.i64.wrap ((z : Int) / 2) = (z : Int) / 2 := by rw [IntKind.wrap_i64]; omega
                    clear hz hzz h2
                    go_wp2
                    go_ret3
                    refine ⟨?_, rfl⟩
                    rw [HV.out, ← HE.out]
                    rfl
                | succ k =>
                  have ej : ((k + 1 : Nat) : Int) - 1 = (k : Int) := by omega
                  rw [ej]
                  have hk2 : (k : Int) < s.size := by have := HLT.out; omega
                  have hk : k < s.size := by have := HLT.out; omega
                  have hbk := UInt8.toNat_lt s[k]
                  have hz3 := Nat.lt_of_le_of_lt (behind_le s n HLT.out k (by omega)) HLIM2.out
                  have HST := Lib.hid (behind_step s n k HLT.out (by omega))
                  have hz4 : (behind s n (k + 1) : Int) * 128 + (s[k].toNat : Int) % 128 ≤ 18446744073709551615 := by have := HST.out; omega
                  obtain ⟨z, hzz⟩ : ∃ z, z = behind s n (k + 1) := ⟨_, rfl⟩
                  rw [← hzz] at HST hz4 ⊢
                  have ew : IntKind.u64.wrap ((z : Int) * 128) = (z : Int) * 128 := by rw [IntKind.wrap_u64]; omega
                  have ew2 : IntKind.u64.wrap ((z : Int) * 128 + (s[k].toNat : Int) % 128) = (z : Int) * 128 + (s[k].toNat : Int) % 128 := by rw [IntKind.wrap_u64]; omega
                  clear hz hz3 hz4 hzz ej
                  go_wp2_with fail
                  go_roundw
                  case rel => exact ⟨by first | trivial | rfl, k, by omega, by go_num, by rw [HST.out]; go_num⟩
                  case measure => simp [intOf]; try omega
          · have dp := decide_eq_false i0
            have dp2 : decide (0 < (n : Int)) = false := by simp; omega
            rw [getR, if_neg (by omega), if_pos (by omega)] at hg
            have HV : Hid (refV G = refV (GetA.shift n (valN (s.data.toList.take n)) (GetA.ok (s[n].toNat % 128) 1))) := by show _ = _; rw [hg]
            rw [refV_ok, ← HD.out] at HV
            have hlim : behind s n 0 < 18446744073709551616 := by
              rw [HD.out]
              exact HLIM.out _ _ hg
            have HLT := Lib.hid hlt
            have HLIM2 := Lib.hid hlim
            have HN9 : Hid (n ≤ 9) := by show _ ≤ _; omega
            clear hg hb hi9 hlim i0 i9
            go_wp2_with fail
            go_loopw [6, 7] (fun zv iv wr => w = wr ∧ ∃ j : Nat, j ≤ n + 1 ∧ iv = .int .i64 ((j : Int) - 1) ∧ zv = .int .u64 (behind s n j : Nat)) (fun _ iv _ => (intOf iv + 1).toNat)
            case atStart => exact ⟨rfl, n + 1, by omega, by go_num, by rw [behind_end]; rfl⟩
            case round =>
              obtain ⟨rfl, j, hj, rfl, rfl⟩ := hrel
              have hz := Nat.lt_of_le_of_lt (behind_le s n HLT.out j hj) HLIM2.out
              cases j with
              | zero =>
                obtain ⟨z, hzz⟩ : ∃ z, z = behind s n 0 := ⟨_, rfl⟩
                rw [← hzz] at hz HV ⊢
                have hz2 : (z : Int) ≤ 18446744073709551615 := by omega
                have hn9 : (n : Int) ≤ 9 := by have := HN9.out; omega
                by_cases h2 : z % 2 = 0
                · have db : ((z : Int) % 2 == 0) = true := by rw [beq_iff_eq]; omega
                  have HE : Hid (((z : Int) / 2) = numN z) := by show _ = _; unfold numN; rw [if_pos h2]; omega
                  have ew : IntKind.i64.wrap ((z : Int) / 2) = (z : Int) / 2 := by rw [IntKind.wrap_i64]; omega
                  clear hz hzz h2
                  go_wp2
                  go_ret3
                  refine ⟨?_, rfl⟩
                  rw [HV.out, ← HE.out]
                  rfl
                · have db : ((z : Int) % 2 == 0) = false := by rw [beq_eq_false_iff_ne]; omega
                  have HE : Hid (-((z : Int) / 2) - 1 = numN z) := by show _ = _; unfold numN; rw [if_neg h2]; omega
                  have ew : IntKind.i64.wrap ((z : Int) / 2) = (z : Int) / 2 := by rw [IntKind.wrap_i64]; omega
                  clear hz hzz h2
                  go_wp2
                  go_ret3
                  refine ⟨?_, rfl⟩
                  rw [HV.out, ← HE.out]
                  rfl
              | succ k =>
                have ej : ((k + 1 : Nat) : Int) - 1 = (k : Int) := by omega
                rw [ej]
                have hk2 : (k : Int) < s.size := by have := HLT.out; omega
                have hk : k < s.size := by have := HLT.out; omega
                have hbk := UInt8.toNat_lt s[k]
                have hz3 := Nat.lt_of_le_of_lt (behind_le s n HLT.out k (by omega)) HLIM2.out
                have HST := Lib.hid (behind_step s n k HLT.out (by omega))
                have hz4 : (behind s n (k + 1) : Int) * 128 + (s[k].toNat : Int) % 128 ≤ 18446744073709551615 := by have := HST.out; omega
                obtain ⟨z, hzz⟩ : ∃ z, z = behind s n (k + 1) := ⟨_, rfl⟩
                rw [← hzz] at HST hz4 ⊢
                have ew : IntKind.u64.wrap ((z : Int) * 128) = (z : Int) * 128 := by rw [IntKind.wrap_u64]; omega
                have ew2 : IntKind.u64.wrap ((z : Int) * 128 + (s[k].toNat : Int) % 128) = (z : Int) * 128 + (s[k].toNat : Int) % 128 := by rw [IntKind.wrap_u64]; omega
                clear hz hz3 hz4 hzz ej
                go_wp2_with fail
                go_roundw
                case rel => exact ⟨by first | trivial | rfl, k, by omega, by go_num, by rw [HST.out]; go_num⟩
                case measure => simp [intOf]; try omega
    · obtain rfl : n = s.size := by omega
      rw [drop_end, getR] at hg
      have HV : Hid (refV G = refV GetA.short) := by show _ = _; rw [hg]; rfl
      clear hg hi9
      go_wp2
      go_ret3
      exact ⟨by rw [HV.out]; rfl, rfl⟩
end Go.Proofs.Ytbpaongnehgodaa
