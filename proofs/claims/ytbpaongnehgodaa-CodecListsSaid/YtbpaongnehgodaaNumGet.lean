/- Package num: Get. -/
import Derived.Test.YtbpaongnehgodaaNumCode
import Derived.OwnWalk
namespace Go.Proofs.Ytbpaongnehgodaa
open Go.ChangeShapes Go.WideShapes Go.ChangeAt Go.RowKit
/-- What Get tells of the bytes. -/
def getV (s : ByteArray) : GetA → Value
  | .short => .tuple #[.int .i64 0, .string ⟨#[]⟩, .int .i64 4]
  | .form => .tuple #[.int .i64 0, .string ⟨#[]⟩, .int .i64 3]
  | .ok v m => .tuple #[.int .i64 (numN v), .string (s.extract m s.size), .int .i64 0]
theorem drop_step (s : ByteArray) (k : Nat) (h : k < s.size) : s.data.toList.drop k = s[k] :: s.data.toList.drop (k + 1) := by
  rw [List.drop_eq_getElem_cons (by simpa using h)]; rfl
theorem drop_end (s : ByteArray) : s.data.toList.drop s.size = [] := by
  apply List.drop_eq_nil_of_le; simp
theorem pow128 (i : Nat) : 2 ^ (7 * i) = 128 ^ i := by rw [Nat.pow_mul]
theorem or_next (i c x : Nat) (hi : i ≤ 9) (hc : c < 128 ^ i) (hx : x < 256) (h9 : i = 9 → x ≤ 1) :
    bits BinOp.or IntKind.u64 (c : Int) (IntKind.u64.wrap ((x : Int) % 128 * 2 ^ (7 * i))) = ((c + 128 ^ i * (x % 128) : Nat) : Int) ∧ c + 128 ^ i * (x % 128) < 18446744073709551616 := by
  have hp := pow64 hi
  have hx2 : x % 128 * 128 ^ i + 128 ^ i ≤ 18446744073709551616 := by
    by_cases e : i = 9
    · have := h9 e
      have h1 : x % 128 * 128 ^ i ≤ 1 * 128 ^ i := Nat.mul_le_mul_right _ (by omega)
      generalize 128 ^ i = q at *
      generalize x % 128 * q = r at *
      omega
    · have p := pow64 (show i + 1 ≤ 9 by omega)
      have h1 : (x % 128 + 1) * 128 ^ i ≤ 128 * 128 ^ i := Nat.mul_le_mul_right _ (by omega)
      rw [Nat.pow_succ] at p
      rw [Nat.add_mul] at h1
      generalize 128 ^ i = q at *
      generalize x % 128 * q = r at *
      omega
  have ew : IntKind.u64.wrap ((x : Int) % 128 * 2 ^ (7 * i)) = ((x % 128 * 128 ^ i : Nat) : Int) := by
    have e1 : (x : Int) % 128 * 2 ^ (7 * i) = ((x % 128 * 128 ^ i : Nat) : Int) := by
      rw [← pow128]
      push_cast
      rfl
    rw [e1, IntKind.wrap_u64]
    generalize 128 ^ i = q at *
    generalize x % 128 * q = r at *
    omega
  have hc64 : c < 18446744073709551616 := by omega
  have hx64 : x % 128 * 128 ^ i < 18446744073709551616 := by have := Nat.pow_pos (n := i) (show 0 < 128 by decide); omega
  rw [ew, or64 c _ hc64 hx64]
  have h := Nat.two_pow_add_eq_or_of_lt (i := 7 * i) (b := c) (by rw [pow128]; exact hc) (x % 128)
  rw [pow128] at h
  rw [Nat.or_comm, Nat.mul_comm (x % 128), ← h, Nat.add_comm]
  refine ⟨rfl, ?_⟩
  rw [Nat.mul_comm (128 ^ i)]
  generalize 128 ^ i = q at *
  generalize x % 128 * q = r at *
  omega
/-- Of its last byte. -/
theorem getV_ok (s : ByteArray) (i c x : Nat) : getV s (GetA.shift i c (GetA.ok (x % 128) 1)) = .tuple #[.int .i64 (numN (c + 128 ^ i * (x % 128))), .string (s.extract (i + 1) s.size), .int .i64 0] := by
  simp only [GetA.shift, getV, Nat.add_comm 1 i]
theorem getV_more (i c x : Nat) (g : GetA) : GetA.shift i c (g.step x) = GetA.shift (i + 1) (c + 128 ^ i * (x % 128)) g := shift_step g i c x
set_option maxHeartbeats 1000000 in
theorem get_any (s : ByteArray) (hs : s.size ≤ 1000000) (w : World) :
    Calls Try.prog 50 #[.string s] w (Ret (getV s (getR 0 s.data.toList)) w) := by
  obtain ⟨G, hG⟩ : ∃ G, getR 0 s.data.toList = G := ⟨_, rfl⟩
  rw [hG]
  have hs2 : (s.size : Int) ≤ 1000000 := by omega
  have HG := Lib.hid hG
  clear hs hG
  go_enter Try.func50, Try.ntmps50
  go_wp2
  go_loopw [5, 10] (fun cv iv wr => w = wr ∧ ∃ i c : Nat, i ≤ s.size ∧ i ≤ 9 ∧ iv = .int .i64 i ∧ cv = .int .u64 c ∧ c < 128 ^ i ∧ G = (getR i (s.data.toList.drop i)).shift i c) (fun _ iv _ => s.size - (intOf iv).toNat)
  case atStart => exact ⟨rfl, 0, 0, Nat.zero_le _, by decide, rfl, rfl, by decide, by rw [shift_zero]; exact HG.out.symm⟩
  case round =>
    obtain ⟨rfl, i, c, hi, hi9, rfl, rfl, hc, hg⟩ := hrel
    have hi2 : (i : Int) ≤ s.size := by omega
    by_cases hlt : i < s.size
    · have hlt2 : (i : Int) < s.size := by omega
      have hb := UInt8.toNat_lt s[i]
      rw [drop_step s i hlt] at hg
      by_cases x0 : s[i].toNat = 0
      · have d0 : ((s[i].toNat : Int) == 0) = true := by rw [beq_iff_eq]; omega
        by_cases i0 : 0 < i
        · rw [getR, if_pos (Or.inl ⟨x0, i0⟩)] at hg
          have HGG := Lib.hid hg
          have dp := decide_eq_true i0
          have dp2 : decide (0 < (i : Int)) = true := by simp; omega
          clear hg x0 hb hc hi hi9
          go_wp2
          go_ret3
          refine ⟨?_, Below.refl _ _⟩
          rw [HGG.out]
          rfl
        · rw [getR, if_neg (by omega), if_pos (by omega)] at hg
          have HV : Hid (getV s G = getV s (GetA.shift i c (GetA.ok (s[i].toNat % 128) 1))) := by show _ = _; rw [hg]
          have dp := decide_eq_false i0
          have dp2 : decide (0 < (i : Int)) = false := by simp; omega
          have d1 : decide (1 < (s[i].toNat : Int)) = false := by simp; omega
          have d1' : decide (1 < s[i].toNat) = false := by simp; omega
          have d7 : decide ((s[i].toNat : Int) < 128) = true := by simp; omega
          have i9 : ¬ i = 9 := by omega
          clear hg i0 x0
          obtain ⟨ho, hlim⟩ := or_next i c s[i].toNat hi9 hc hb (fun e => absurd e i9)
          rw [getV_ok] at HV
          obtain ⟨v, hv⟩ : ∃ v, v = c + 128 ^ i * (s[i].toNat % 128) := ⟨_, rfl⟩
          rw [← hv] at ho hlim HV
          have HN : Hid (∀ W, Calls Try.prog 51 #[.int .u64 v] W (fun e w' => e = .returned (.int .i64 (numN v)) ∧ w' = W)) := fun W => (number_any v hlim W).mono fun _ _ ⟨h1, h2⟩ => ⟨h1, h2.symm⟩
          clear hv hlim
          go_wp2_with fail
          go_quiet ((go_at_call 51; exact Calls.quiet_of_same (HN.out _)))
          go_wp2
          go_ret3
          refine ⟨?_, below_drewN (Below.refl _ _) _⟩
          rw [HV.out]
          rfl
      · have d0 : ((s[i].toNat : Int) == 0) = false := by rw [beq_eq_false_iff_ne]; omega
        by_cases x1 : 1 < s[i].toNat
        · have d1 : decide (1 < (s[i].toNat : Int)) = true := by simp; omega
          have d1' := decide_eq_true x1
          by_cases i9 : i = 9
          · subst i9
            rw [getR, if_pos (Or.inr ⟨x1, rfl⟩)] at hg
            have HGG := Lib.hid hg
            clear hg hb hc hi hi9
            go_wp2
            go_ret3
            refine ⟨?_, Below.refl _ _⟩
            rw [HGG.out]
            rfl
          · have d9 : ((i : Int) == 9) = false := by rw [beq_eq_false_iff_ne]; omega
            rw [getR, if_neg (by omega)] at hg
            by_cases x7 : s[i].toNat < 128
            · rw [if_pos x7] at hg
              have d7 : decide ((s[i].toNat : Int) < 128) = true := by simp; omega
              have d7' := decide_eq_true x7
              have HV : Hid (getV s G = getV s (GetA.shift i c (GetA.ok (s[i].toNat % 128) 1))) := by show _ = _; rw [hg]
              clear hg x7
              obtain ⟨ho, hlim⟩ := or_next i c s[i].toNat hi9 hc hb (fun e => absurd e i9)
              rw [getV_ok] at HV
              obtain ⟨v, hv⟩ : ∃ v, v = c + 128 ^ i * (s[i].toNat % 128) := ⟨_, rfl⟩
              rw [← hv] at ho hlim HV
              have HN : Hid (∀ W, Calls Try.prog 51 #[.int .u64 v] W (fun e w' => e = .returned (.int .i64 (numN v)) ∧ w' = W)) := fun W => (number_any v hlim W).mono fun _ _ ⟨h1, h2⟩ => ⟨h1, h2.symm⟩
              clear hv hlim
              go_wp2_with fail
              go_quiet ((go_at_call 51; exact Calls.quiet_of_same (HN.out _)))
              go_wp2
              go_ret3
              refine ⟨?_, below_drewN (Below.refl _ _) _⟩
              rw [HV.out]
              rfl
            · rw [if_neg x7, getV_more] at hg
              have d7 : decide ((s[i].toNat : Int) < 128) = false := by simp; omega
              have d7' := decide_eq_false x7
              obtain ⟨ho, hlim⟩ := or_next i c s[i].toNat hi9 hc hb (fun e => absurd e i9)
              have hv9 : c + 128 ^ i * (s[i].toNat % 128) < 128 ^ (i + 1) := by
                have h1 : 128 ^ i * (s[i].toNat % 128 + 1) ≤ 128 ^ i * 128 := Nat.mul_le_mul_left _ (by omega)
                rw [Nat.mul_add] at h1
                rw [Nat.pow_succ]
                omega
              obtain ⟨v, hv⟩ : ∃ v, v = c + 128 ^ i * (s[i].toNat % 128) := ⟨_, rfl⟩
              rw [← hv] at ho hlim hg hv9
              have HGG := Lib.hid hg
              have HV9 := Lib.hid hv9
              have HI : Hid (i + 1 ≤ 9) := by show _ ≤ _; omega
              clear hv hlim hg hv9
              go_wp2_with fail
              go_roundw
              case rel => exact ⟨by first | trivial | rfl, i + 1, v, by omega, HI.out, by go_num, by go_num, HV9.out, HGG.out⟩
              case measure => simp [intOf]; omega
        · have d1 : decide (1 < (s[i].toNat : Int)) = false := by simp; omega
          have d1' := decide_eq_false x1
          rw [getR, if_neg (by omega), if_pos (by omega)] at hg
          have HV : Hid (getV s G = getV s (GetA.shift i c (GetA.ok (s[i].toNat % 128) 1))) := by show _ = _; rw [hg]
          have d7 : decide ((s[i].toNat : Int) < 128) = true := by simp; omega
          have d7' : decide (s[i].toNat < 128) = true := by simp; omega
          clear hg
          obtain ⟨ho, hlim⟩ := or_next i c s[i].toNat hi9 hc hb (fun e => by omega)
          rw [getV_ok] at HV
          obtain ⟨v, hv⟩ : ∃ v, v = c + 128 ^ i * (s[i].toNat % 128) := ⟨_, rfl⟩
          rw [← hv] at ho hlim HV
          have HN : Hid (∀ W, Calls Try.prog 51 #[.int .u64 v] W (fun e w' => e = .returned (.int .i64 (numN v)) ∧ w' = W)) := fun W => (number_any v hlim W).mono fun _ _ ⟨h1, h2⟩ => ⟨h1, h2.symm⟩
          clear hv hlim
          go_wp2_with fail
          go_quiet ((go_at_call 51; exact Calls.quiet_of_same (HN.out _)))
          go_wp2
          go_ret3
          refine ⟨?_, below_drewN (Below.refl _ _) _⟩
          rw [HV.out]
          rfl
    · obtain rfl : i = s.size := by omega
      rw [drop_end, getR] at hg
      have HGG := Lib.hid hg
      clear hg hc
      go_wp2
      go_ret3
      refine ⟨?_, Below.refl _ _⟩
      rw [HGG.out]
      rfl
end Go.Proofs.Ytbpaongnehgodaa
