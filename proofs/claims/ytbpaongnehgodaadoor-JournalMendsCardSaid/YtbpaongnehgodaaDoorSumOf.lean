/- Package sum: Of; the document's sum. -/
import Derived.Test.YtbpaongnehgodaaDoorSumCode
namespace Go.Proofs.YtbpaongnehgodaaDoor
open Go.ChangeShapes Go.WideShapes Go.ChangeAt Go.RowKit
theorem of_any (s : ByteArray) (hs : s.size ≤ 1000000) (w : World) (ht : Tab w) :
    Calls Tryd.prog 33 #[.string s] w (RetS (.int .u32 (sumN 0 s.data.toList : Nat)) w) := by
  have HF := Lib.hid (on_any 0 (by decide) s hs w ht)
  clear ht hs
  go_enter Tryd.func33, Tryd.ntmps33
  go_wp2_with fail
  refine HF.out.mono ?_
  rintro e w1 ⟨rfl, rfl⟩
  go_wp2
  go_ret
  exact ⟨rfl, rfl⟩
theorem sumN_append (n : Nat) (l m : List UInt8) (hn : n < 4294967296) : sumN (sumN n l) m = sumN n (l ++ m) := by
  unfold sumN
  have := regN_lt l (show 4294967295 - n < 4294967296 by omega)
  rw [regN_append, show 4294967295 - (4294967295 - regN (4294967295 - n) l) = regN (4294967295 - n) l by omega]
/-- So many shifts. -/
def shiftN : Nat → Nat → Nat | 0, x => x | j + 1, x => shift1 (shiftN j x)
theorem shiftN_lt : ∀ (j : Nat) {x : Nat}, x < 4294967296 → shiftN j x < 4294967296
  | 0, _, h => h
  | j + 1, _, h => shift1_lt (shiftN_lt j h)
theorem regN_snoc8 (c : Nat) (s : ByteArray) (k : Nat) (h : k < s.size) : regN c (s.data.toList.take (k + 1)) = shiftN 8 (regN c (s.data.toList.take k) ^^^ s[k].toNat) := regN_snoc c s k h
set_option maxHeartbeats 1000000 in
theorem refon_any (n : Nat) (hn : n < 4294967296) (s : ByteArray) (hs : s.size ≤ 1000000) (w : World) :
    Calls Tryd.prog 31 #[.int .u32 (n : Nat), .string s] w (RetS (.int .u32 (sumN n s.data.toList : Nat)) w) := by
  have en : (4294967295 : Int) - (n : Int) = ((4294967295 - n : Nat) : Int) := by omega
  obtain ⟨c0, hc0⟩ : ∃ c0, c0 = 4294967295 - n := ⟨_, rfl⟩
  have HC0 : Hid (c0 < 4294967296) := by show c0 < _; omega
  have HV : Hid (∀ r, r < 4294967296 → regN c0 s.data.toList = r → sumN n s.data.toList = 4294967295 - r) := fun r _ h => by unfold sumN; rw [← hc0, h]
  rw [← hc0] at en
  have hs2 : (s.size : Int) ≤ 1000000 := by omega
  have hn2 : (n : Int) ≤ 4294967295 := by omega
  clear hc0 hn hs
  go_enter Tryd.func31, Tryd.ntmps31
  go_wp2
  clear en hn2
  go_loop [5, 6] (fun rv iv => ∃ k : Nat, k ≤ s.size ∧ iv = .int .i64 k ∧ rv = .int .u32 (regN c0 (s.data.toList.take k) : Nat)) (fun _ iv => s.size - (intOf iv).toNat)
  case atStart => exact ⟨0, Nat.zero_le _, rfl, rfl⟩
  case round =>
    obtain ⟨k, hk, rfl, rfl⟩ := hrel
    have hk2 : (k : Int) ≤ s.size := by omega
    have hr := regN_lt (s.data.toList.take k) HC0.out
    by_cases hlt : k < s.size
    · have hlt2 : (k : Int) < s.size := by omega
      have HN := Lib.hid (regN_snoc8 c0 s k hlt)
      obtain ⟨c, hc⟩ : ∃ c, c = regN c0 (s.data.toList.take k) := ⟨_, rfl⟩
      rw [← hc] at hr HN ⊢
      have hx : bits BinOp.xor IntKind.u32 (c : Int) ((s[k].toNat : Int) % 4294967296) = ((c ^^^ s[k].toNat : Nat) : Int) := by
        rw [Int.emod_eq_of_lt (by omega) (by have := byte_lt s[k]; omega)]
        exact xor32 c s[k].toNat hr (byte_lt _)
      have hl := xor_lt32 hr (byte_lt s[k])
      obtain ⟨x, hxx⟩ : ∃ x, x = c ^^^ s[k].toNat := ⟨_, rfl⟩
      rw [← hxx] at HN hx hl
      have HX := Lib.hid hx
      have HLX := Lib.hid hl
      have HL := Lib.hid hlt
      clear hxx hr hc hx hl
      go_wp2
      rw [HX.out]
      clear HX
      go_loop [5, 7] (fun rv iv => ∃ j : Nat, j ≤ 8 ∧ iv = .int .i64 j ∧ rv = .int .u32 (shiftN j x : Nat)) (fun _ iv => 8 - (intOf iv).toNat)
      case atStart => exact ⟨0, Nat.zero_le _, rfl, rfl⟩
      case round =>
        obtain ⟨j, hj, rfl, rfl⟩ := hrel
        have hr := shiftN_lt j HLX.out
        by_cases hj8 : j < 8
        · have hj2 : (j : Int) < 8 := by omega
          have HSj : Hid (shiftN (j + 1) x = shift1 (shiftN j x)) := rfl
          obtain ⟨d, hd⟩ : ∃ d, d = shiftN j x := ⟨_, rfl⟩
          rw [← hd] at hr HSj ⊢
          clear hd
          by_cases hodd : d % 2 = 1
          · have b : ((d : Int) % 2 == 1) = true := by rw [beq_iff_eq]; omega
            have HB : Hid (bits BinOp.xor IntKind.u32 ((d : Int) / 2) 3988292384 = ((shift1 d : Nat) : Int)) := by
              show _ = _
              unfold shift1
              rw [if_pos hodd]
              exact xor32 (d / 2) 3988292384 (by omega) (by decide)
            have hr2 : (d : Int) ≤ 4294967295 := by omega
            clear hodd hr
            go_wp2
            go_round
            case rel => exact ⟨j + 1, by omega, by go_num, by rw [HSj.out, ← HB.out]⟩
            case measure => simp [intOf]; omega
          · have b : ((d : Int) % 2 == 1) = false := by rw [beq_eq_false_iff_ne]; omega
            have HB : Hid ((d : Int) / 2 = ((shift1 d : Nat) : Int)) := by
              show _ = _
              unfold shift1
              rw [if_neg hodd]
              omega
            have hr2 : (d : Int) ≤ 4294967295 := by omega
            clear hodd hr
            go_wp2
            go_round
            case rel => exact ⟨j + 1, by omega, by go_num, by rw [HSj.out, ← HB.out]⟩
            case measure => simp [intOf]; omega
        · obtain rfl : j = 8 := by omega
          clear hr
          rw [← HN.out]
          go_wp2
          go_round
          case rel => exact ⟨k + 1, by have := HL.out; omega, by go_num, rfl⟩
          case measure => have := HL.out; simp [intOf]; omega
    · obtain rfl : k = s.size := by omega
      rw [List.take_of_length_le (by simp)] at hr ⊢
      obtain ⟨c, hc⟩ : ∃ c, regN c0 s.data.toList = c := ⟨_, rfl⟩
      rw [hc] at hr ⊢
      have en : (4294967295 : Int) - (c : Int) = ((4294967295 - c : Nat) : Int) := by omega
      have hr2 : (c : Int) ≤ 4294967295 := by omega
      have HW := Lib.hid (HV.out c hr hc)
      clear hc hr
      go_wp2
      go_ret
      exact ret32 HW.out.symm
end Go.Proofs.YtbpaongnehgodaaDoor
