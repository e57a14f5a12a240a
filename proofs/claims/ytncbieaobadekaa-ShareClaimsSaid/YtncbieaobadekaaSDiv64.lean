/- math/bits.Div64, as Go's library has it: how often a word is in two words, and what is left. -/
import Derived.Test.YtncbieaobadekaaSWideRefs
import Derived.Test.YtncbieaobadekaaSDiv64Math
import Derived.Test.YtncbieaobadekaaShelf
import Derived.Lib.Hide
import Derived.Deep.CutBlock
import Derived.Deep.DeepCutAuto
import Derived.Deep.QuietTactic
import Derived.BigQuiet
import Derived.WalkSmall
import Derived.WalkLawsBesides
import Derived.Lib.ItoaNum
namespace Go.Proofs.Ytncbieaobadekaa
open Go.ChangeShapes Go.WideShapes Go.ChangeAt Go.RowKit
set_option maxHeartbeats 400000 in
theorem div64_low (l c : Nat) (hc : 0 < c) (hl : l < 18446744073709551616) (hc1 : c < 18446744073709551616) (w : World) :
    Calls Try.prog 117 #[.int .u64 0, .int .u64 l, .int .u64 c] w (Ret (.tuple #[.int .u64 (l / c : Nat), .int .u64 (l % c : Nat)]) w) := by
  have g1 : ((c : Int) == 0) = false := by rw [beq_eq_false_iff_ne]; omega
  have g2 : decide ((c : Int) ≤ 0) = false := by simp; omega
  have g3 : (0 : Int) < c := by omega
  have HQ := Lib.hid (show IntKind.u64.wrap ((l : Int) / (c : Int)) = ((l / c : Nat) : Int) from by
    rw [← Int.natCast_ediv, IntKind.wrap_u64]
    have := Nat.div_le_self l c
    generalize l / c = q at *
    omega)
  clear hl hc1 hc
  go_enter Try.func117, Try.ntmps117
  go_wp2
  go_quiet (fail)
  go_wp2
  go_ret2
  refine ⟨?_, below_drewN (Below.refl _ _) _⟩
  show Ending.returned (.tuple #[.int .u64 (IntKind.u64.wrap ((l : Int) / (c : Int))), .int .u64 ((l : Int) % (c : Int))]) = _
  rw [HQ.out, Int.natCast_emod]
theorem int_eq2 {k : IntKind} {a b : Int} (h : a = b) : Value.int k a = .int k b := by rw [h]
theorem lead (c : Nat) (h0 : 0 < c) (h1 : c < 18446744073709551616) : ∃ s : Nat, (64 - (Lib.bitLen c : Int)) = (s : Int) ∧ s < 64 ∧ 9223372036854775808 ≤ c * 2 ^ s ∧ c * 2 ^ s < 18446744073709551616 := by
  obtain ⟨a1, a2, a3⟩ := Lib.bitLenAux_bounds 64 c (by simp only [Nat.reducePow]; exact h1) (by omega)
  have e : Lib.bitLen c = Lib.bitLenAux 64 c := rfl
  rw [e]
  generalize Lib.bitLenAux 64 c = L at *
  have hL : L ≤ 64 := by
    rcases Nat.lt_or_ge 64 L with h | h
    · have : 2 ^ 64 ≤ 2 ^ (L - 1) := Nat.pow_le_pow_right (by omega) (by omega)
      simp only [Nat.reducePow] at this
      omega
    · exact h
  refine ⟨64 - L, by omega, by omega, ?_, ?_⟩
  · have := Nat.mul_le_mul_right (2 ^ (64 - L)) a2
    rw [← Nat.pow_add, show L - 1 + (64 - L) = 63 from by omega] at this
    simp only [Nat.reducePow] at this
    exact this
  · have := (Nat.mul_lt_mul_right (Nat.two_pow_pos (64 - L))).2 a3
    rw [← Nat.pow_add, show L + (64 - L) = 64 from by omega] at this
    simp only [Nat.reducePow] at this
    exact this
theorem bits_or_nat (a b : Nat) (ha : a < 18446744073709551616) (hb : b < 18446744073709551616) :
    bits .or .u64 (a : Int) (b : Int) = ((a ||| b : Nat) : Int) := by
  have hx : a ||| b < 2 ^ 64 := Nat.or_lt_two_pow (by omega) (by omega)
  have h1 : (BitVec.ofInt 64 (a : Int)).toNat = a := by
    rw [BitVec.ofInt_natCast, BitVec.toNat_ofNat]; exact Nat.mod_eq_of_lt (by omega)
  have h2 : (BitVec.ofInt 64 (b : Int)).toNat = b := by
    rw [BitVec.ofInt_natCast, BitVec.toNat_ofNat]; exact Nat.mod_eq_of_lt (by omega)
  show IntKind.u64.wrap ((BitVec.ofInt 64 (a : Int) ||| BitVec.ofInt 64 (b : Int)).toNat : Int) = _
  rw [BitVec.toNat_or, h1, h2, IntKind.wrap_u64]
  omega
theorem shifted {h l c s : Nat} (S : Shift h l c s (c * 2 ^ s) (h * 2 ^ s + l / 2 ^ (64 - s)) (l * 2 ^ s % 18446744073709551616)) (hl : l < 18446744073709551616) :
    IntKind.u64.wrap ((c : Int) * 2 ^ s) = ((c * 2 ^ s : Nat) : Int) ∧ bits BinOp.or IntKind.u64 (IntKind.u64.wrap ((h : Int) * 2 ^ s)) ((l : Int) / 2 ^ (64 - s)) = ((h * 2 ^ s + l / 2 ^ (64 - s) : Nat) : Int) ∧ IntKind.u64.wrap ((l : Int) * 2 ^ s) = ((l * 2 ^ s % 18446744073709551616 : Nat) : Int) ∧ c * 2 ^ s < 18446744073709551616 := by
  have c1 : (c : Int) * 2 ^ s = ((c * 2 ^ s : Nat) : Int) := by simp
  have c2 : (h : Int) * 2 ^ s = ((h * 2 ^ s : Nat) : Int) := by simp
  have c3 : (l : Int) * 2 ^ s = ((l * 2 ^ s : Nat) : Int) := by simp
  have c4 : (l : Int) / 2 ^ (64 - s) = ((l / 2 ^ (64 - s) : Nat) : Int) := by simp
  have h1 := S.yhi
  have h2 := S.uy
  have hp := pow_split S.s6
  have h3 : l / 2 ^ (64 - s) < 2 ^ s := (Nat.div_lt_iff_lt_mul (Nat.two_pow_pos _)).2 (by omega)
  have h4 : l / 2 ^ (64 - s) ≤ l := Nat.div_le_self _ _
  have h5 := or_split h (l / 2 ^ (64 - s)) s h3
  rw [c1, c2, c3, c4]
  generalize l / 2 ^ (64 - s) = t at *
  generalize h * 2 ^ s = u at *
  generalize c * 2 ^ s = y at *
  generalize l * 2 ^ s = k at *
  have e : IntKind.u64.wrap (u : Int) = (u : Int) := by rw [IntKind.wrap_u64]; omega
  refine ⟨by rw [IntKind.wrap_u64]; omega, ?_, by rw [IntKind.wrap_u64]; omega, h1⟩
  rw [e, bits_or_nat _ _ (by omega) (by omega), h5]
set_option maxHeartbeats 1000000 in
theorem div64_high (h l c : Nat) (h0 : 0 < h) (hc : h < c) (hl : l < 18446744073709551616) (hc1 : c < 18446744073709551616) (w : World) :
    Calls Try.prog 117 #[.int .u64 h, .int .u64 l, .int .u64 c] w (Ret (.tuple #[.int .u64 ((h * 18446744073709551616 + l) / c : Nat), .int .u64 ((h * 18446744073709551616 + l) % c : Nat)]) w) := by
  have g1 : ((c : Int) == 0) = false := by rw [beq_eq_false_iff_ne]; omega
  have g2 : decide (c ≤ h) = false := by simp; omega
  have g3 : ((h : Int) == 0) = false := by rw [beq_eq_false_iff_ne]; omega
  have H1 := Lib.hid (fun (w : World) => Try.bits_LeadingZeros64 c w (by omega) (by omega))
  obtain ⟨s, hs, hs6, hlo, hhi⟩ := lead c (by omega) hc1
  have S := Shift.make hs6 hl hc hlo hhi
  obtain ⟨hY, hU, hV, hO⟩ := shifted S hl
  have HS := Lib.hid (show (64 - (Lib.bitLen c : Int)) = (s : Int) from hs)
  generalize c * 2 ^ s = Y at *
  generalize h * 2 ^ s + l / 2 ^ (64 - s) = U at *
  generalize l * 2 ^ s % 18446744073709551616 = V at *
  obtain ⟨n1, hn1⟩ : ∃ n, n = Y / 4294967296 := ⟨_, rfl⟩
  obtain ⟨n0, hn0⟩ : ∃ n, n = Y % 4294967296 := ⟨_, rfl⟩
  obtain ⟨v1, hv1⟩ : ∃ n, n = V / 4294967296 := ⟨_, rfl⟩
  obtain ⟨v0, hv0⟩ : ∃ n, n = V % 4294967296 := ⟨_, rfl⟩
  have b1 : 2147483648 ≤ n1 ∧ n1 < 4294967296 ∧ n0 < 4294967296 ∧ v1 < 4294967296 ∧ v0 < 4294967296 := by
    have := S.ylo; have := S.v; omega
  obtain ⟨c1, c2, c3, c4, c5⟩ := b1
  have hYn : Y = n1 * 4294967296 + n0 := by omega
  have Q1 := QSt.start hYn c1 c2 c3 c4 S.uy
  obtain ⟨q, hq⟩ : ∃ q, q = U / n1 := ⟨_, rfl⟩
  obtain ⟨r, hr⟩ : ∃ r, r = U % n1 := ⟨_, rfl⟩
  rw [← hq, ← hr] at Q1
  have hUY := S.uy
  have hY64 := S.yhi
  have E1 := Nat.div_add_mod (U * 4294967296 + v1) Y
  have R1 := Nat.mod_lt (U * 4294967296 + v1) (show 0 < Y by omega)
  have K1 := quot_small hUY c4
  obtain ⟨q1, hq1⟩ : ∃ q, q = (U * 4294967296 + v1) / Y := ⟨_, rfl⟩
  obtain ⟨r1, hr1⟩ : ∃ r, r = (U * 4294967296 + v1) % Y := ⟨_, rfl⟩
  rw [← hq1, ← hr1] at E1
  rw [← hr1] at R1
  rw [← hq1] at K1
  have HW := Lib.hid (show IntKind.u64.wrap (IntKind.u64.wrap (IntKind.u64.wrap ((U : Int) * 4294967296) + (v1 : Int)) - IntKind.u64.wrap ((q1 : Int) * (Y : Int))) = (r1 : Int) from by
    rw [← Int.natCast_mul, IntKind.wrap_u64, IntKind.wrap_u64, IntKind.wrap_u64, IntKind.wrap_u64, Nat.mul_comm]
    generalize Y * q1 = P at *
    omega)
  have Q2 := QSt.start hYn c1 c2 c3 c5 R1
  have E2 := Nat.div_add_mod (r1 * 4294967296 + v0) Y
  have R2 := Nat.mod_lt (r1 * 4294967296 + v0) (show 0 < Y by omega)
  have K2 := quot_small R1 c5
  have TD := two_digits_of U Y v1 v0 q1 r1 (by omega) E1
  obtain ⟨q2, hq2⟩ : ∃ q, q = (r1 * 4294967296 + v0) / Y := ⟨_, rfl⟩
  obtain ⟨r2, hr2⟩ : ∃ r, r = (r1 * 4294967296 + v0) % Y := ⟨_, rfl⟩
  rw [← hq2, ← hr2] at E2 TD
  rw [← hr2] at R2
  rw [← hq2] at K2
  have HT := Lib.hid (show IntKind.u64.wrap (IntKind.u64.wrap (IntKind.u64.wrap ((r1 : Int) * 4294967296) + (v0 : Int)) - IntKind.u64.wrap ((q2 : Int) * (Y : Int))) = (r2 : Int) from by
    rw [← Int.natCast_mul, IntKind.wrap_u64, IntKind.wrap_u64, IntKind.wrap_u64, IntKind.wrap_u64, Nat.mul_comm]
    generalize Y * q2 = P at *
    omega)
  obtain ⟨g, hg⟩ : ∃ q, q = r1 / n1 := ⟨_, rfl⟩
  obtain ⟨e, he⟩ : ∃ r, r = r1 % n1 := ⟨_, rfl⟩
  rw [← hg, ← he] at Q2
  have HG := Lib.hid (show IntKind.u64.wrap ((r1 : Int) / (n1 : Int)) = (g : Int) from by
    rw [hg, ← Int.natCast_ediv, IntKind.wrap_u64]
    have := Nat.div_le_self r1 n1
    generalize r1 / n1 = q at *
    omega)
  have HH := Lib.hid (show IntKind.u64.wrap ((r1 : Int) - IntKind.u64.wrap ((g : Int) * (n1 : Int))) = (e : Int) from by
    rw [hg, he, ← Int.natCast_mul, IntKind.wrap_u64, IntKind.wrap_u64]
    have e := Nat.div_add_mod r1 n1
    rw [Nat.mul_comm] at e
    generalize r1 / n1 * n1 = q at *
    generalize r1 % n1 = r at *
    omega)
  have HP := Lib.hid (show (.tuple #[.int .u64 (((h * 18446744073709551616 + l) / c : Nat) : Int), .int .u64 (((h * 18446744073709551616 + l) % c : Nat) : Int)] : Value) = .tuple #[.int .u64 ((q1 : Int) * 4294967296 + (q2 : Int)), .int .u64 ((r2 : Int) / 2 ^ s)] from by
    have SE := S.ends
    have eV : U * 18446744073709551616 + V = U * 18446744073709551616 + v1 * 4294967296 + v0 := by omega
    rw [eV, ← TD.1, ← TD.2] at SE
    rw [← SE.1, ← SE.2]
    simp only [Int.natCast_add, Int.natCast_mul, Int.natCast_ediv, Int.natCast_pow, Int.cast_ofNat_Int])
  have HA := Lib.hid (show ((Y : Int) / 4294967296) = (n1 : Int) from by omega)
  have HB := Lib.hid (show bits BinOp.and IntKind.u64 (Y : Int) 4294967295 = (n0 : Int) from by rw [and_low32 _ (by omega) (by omega)]; omega)
  have HC := Lib.hid (show ((V : Int) / 4294967296) = (v1 : Int) from by omega)
  have HD := Lib.hid (show bits BinOp.and IntKind.u64 (V : Int) 4294967295 = (v0 : Int) from by rw [and_low32 _ (by omega) (by have := S.v; omega)]; omega)
  have HE := Lib.hid (show V = v1 * 4294967296 + v0 from by omega)
  have HQ := Lib.hid (show IntKind.u64.wrap ((U : Int) / (n1 : Int)) = (q : Int) from by
    rw [hq, ← Int.natCast_ediv, IntKind.wrap_u64]
    have := Nat.div_le_self U n1
    have := S.uy
    have := S.yhi
    generalize U / n1 = q at *
    omega)
  have HR := Lib.hid (show IntKind.u64.wrap ((U : Int) - IntKind.u64.wrap ((q : Int) * (n1 : Int))) = (r : Int) from by
    rw [hq, hr, ← Int.natCast_mul, IntKind.wrap_u64, IntKind.wrap_u64]
    have e := Nat.div_add_mod U n1
    rw [Nat.mul_comm] at e
    have := S.uy
    have := S.yhi
    generalize U / n1 * n1 = q at *
    generalize U % n1 = r at *
    omega)
  have HQ1 := Lib.hid hq1
  have HQ2 := Lib.hid hq2
  clear hq1
  have HY := Lib.hid hY
  have HU := Lib.hid hU
  have HV := Lib.hid hV
  have k1a : (q1 : Int) < 4294967296 := by omega
  have k2a : (q2 : Int) < 4294967296 := by omega
  have s1 : (s : Int) < 64 := by omega
  have m1 : (n1 : Int) < 4294967296 := by omega
  have m2 : 2147483648 ≤ (n1 : Int) := by omega
  have m3 : (n0 : Int) < 4294967296 := by omega
  have m4 : (v1 : Int) < 4294967296 := by omega
  have m5 : (v0 : Int) < 4294967296 := by omega
  clear hr hq hr1 hq2 hr2 hg he E1 E2 R1 R2 TD K1 K2 hUY hY64 hs hs6 hlo hhi hY hU hV hO hn1 hn0 hv1 hv0 hYn c1 c2 c3 c4 c5 hl hc1 hc h0
  go_enter Try.func117, Try.ntmps117
  go_wp2_with fail
  refine (H1.out _).mono ?_
  rintro e w1 ⟨rfl, rfl⟩
  rw [Int.toNat_natCast, HS.out]
  clear g2
  go_upto_region 9 with (fail)
  rw [HY.out]
  go_upto_region 15 with (fail)
  rw [HA.out, HB.out, HU.out, HV.out, HC.out, HD.out]
  go_upto_block 0 with (fail)
  rw [HQ.out, HR.out]
  clear HA HB HU HV HC HD HQ HR HY HS
  go_cut [15] (fun q15 wx => q15 = .int .u64 (q1 : Nat) ∧ w1 = wx)
  case first =>
    go_wp2_with (fail)
    go_loop [15, 16] (fun qv rv => ∃ q r : Nat, qv = .int .u64 (q : Nat) ∧ rv = .int .u64 (r : Nat) ∧ QSt U v1 Y n1 n0 q r) (fun qv _ => (intOf qv).toNat)
    case atStart => exact ⟨q, r, rfl, rfl, Q1⟩
    case round =>
      clear Q1
      obtain ⟨q, r, rfl, rfl, Q⟩ := hrel
      have k1 : (r : Int) < 4294967296 := by have := Q.rl; omega
      have k2 : (q : Int) ≤ 4294967297 := by have := Q.ql; omega
      by_cases hq : 4294967296 ≤ (q : Int)
      · have hb := Q.big (by omega)
        have HX := Lib.hid hb
        clear hb
        have k3 : 0 < (q : Int) := by omega
        by_cases hr : (r : Int) + n1 < 4294967296
        · have d2 : decide (4294967296 ≤ (r : Int) + n1) = false := by simp; omega
          go_wp2
          go_round
          case rel => exact ⟨q - 1, r + n1, int_eq2 (by omega), int_eq2 (by omega), Q.less HX.out (by omega)⟩
          case measure => simp [intOf]; omega
        · have d2 : decide (4294967296 ≤ (r : Int) + n1) = true := by simp; omega
          have HZ := Lib.hid (Q.last HX.out (by omega))
          go_wp2
          go_meet
          exact ⟨by rw [HQ1.out, ← HZ.out]; exact int_eq2 (by omega), rfl⟩
      · have kp : (q : Int) * n0 < 18446744073709551616 := by have := Q.prod (by omega); rw [← Int.natCast_mul]; omega
        have kq : 0 ≤ (q : Int) * n0 := by rw [← Int.natCast_mul]; omega
        have d0 : decide (4294967296 ≤ (q : Int)) = false := by simp; omega
        have d0' : decide (4294967296 ≤ q) = false := by simp; omega
        by_cases ho : 4294967296 * (r : Int) + v1 < (q : Int) * n0
        · have hb := Q.over (by rw [← Int.natCast_mul] at ho; omega)
          have HX := Lib.hid hb
          clear hb
          have k3 : 0 < (q : Int) := by have h1 := HX.out; have : 0 < q := Nat.lt_of_le_of_lt (Nat.zero_le _) h1; omega
          by_cases hr : (r : Int) + n1 < 4294967296
          · have d2 : decide (4294967296 ≤ (r : Int) + n1) = false := by simp; omega
            go_wp2
            go_round
            case rel => exact ⟨q - 1, r + n1, int_eq2 (by omega), int_eq2 (by omega), Q.less HX.out (by omega)⟩
            case measure => simp [intOf]; omega
          · have d2 : decide (4294967296 ≤ (r : Int) + n1) = true := by simp; omega
            have HZ := Lib.hid (Q.last HX.out (by omega))
            go_wp2
            go_meet
            exact ⟨by rw [HQ1.out, ← HZ.out]; exact int_eq2 (by omega), rfl⟩
        · have d1 : decide (4294967296 * (r : Int) + v1 < (q : Int) * n0) = false := by simp; omega
          have HZ := Lib.hid (Q.right (by rw [← Int.natCast_mul] at ho; omega))
          go_wp2
          go_meet
          exact ⟨by rw [HQ1.out, ← HZ.out], rfl⟩
  case rest =>
    obtain ⟨rfl, rfl⟩ := hcut
    go_upto_region 22 with (fail)
    rw [HW.out]
    go_upto_block 2 with (fail)
    rw [HG.out, HH.out]
    go_cut [18] (fun q18 wx => q18 = .int .u64 (q2 : Nat) ∧ w1 = wx)
    case first =>
      go_wp2_with (fail)
      go_loop [18, 16] (fun qv rv => ∃ q r : Nat, qv = .int .u64 (q : Nat) ∧ rv = .int .u64 (r : Nat) ∧ QSt r1 v0 Y n1 n0 q r) (fun qv _ => (intOf qv).toNat)
      case atStart => exact ⟨g, e, rfl, rfl, Q2⟩
      case round =>
        clear Q2
        obtain ⟨q, r, rfl, rfl, Q⟩ := hrel
        have k1 : (r : Int) < 4294967296 := by have := Q.rl; omega
        have k2 : (q : Int) ≤ 4294967297 := by have := Q.ql; omega
        by_cases hq : 4294967296 ≤ (q : Int)
        · have hb := Q.big (by omega)
          have HX := Lib.hid hb
          clear hb
          have k3 : 0 < (q : Int) := by omega
          by_cases hr : (r : Int) + n1 < 4294967296
          · have d2 : decide (4294967296 ≤ (r : Int) + n1) = false := by simp; omega
            go_wp2
            go_round
            case rel => exact ⟨q - 1, r + n1, int_eq2 (by omega), int_eq2 (by omega), Q.less HX.out (by omega)⟩
            case measure => simp [intOf]; omega
          · have d2 : decide (4294967296 ≤ (r : Int) + n1) = true := by simp; omega
            have HZ := Lib.hid (Q.last HX.out (by omega))
            go_wp2
            go_meet
            exact ⟨by rw [HQ2.out, ← HZ.out]; exact int_eq2 (by omega), rfl⟩
        · have kp : (q : Int) * n0 < 18446744073709551616 := by have := Q.prod (by omega); rw [← Int.natCast_mul]; omega
          have kq : 0 ≤ (q : Int) * n0 := by rw [← Int.natCast_mul]; omega
          have d0 : decide (4294967296 ≤ (q : Int)) = false := by simp; omega
          have d0' : decide (4294967296 ≤ q) = false := by simp; omega
          by_cases ho : 4294967296 * (r : Int) + v0 < (q : Int) * n0
          · have hb := Q.over (by rw [← Int.natCast_mul] at ho; omega)
            have HX := Lib.hid hb
            clear hb
            have k3 : 0 < (q : Int) := by have h1 := HX.out; have : 0 < q := Nat.lt_of_le_of_lt (Nat.zero_le _) h1; omega
            by_cases hr : (r : Int) + n1 < 4294967296
            · have d2 : decide (4294967296 ≤ (r : Int) + n1) = false := by simp; omega
              go_wp2
              go_round
              case rel => exact ⟨q - 1, r + n1, int_eq2 (by omega), int_eq2 (by omega), Q.less HX.out (by omega)⟩
              case measure => simp [intOf]; omega
            · have d2 : decide (4294967296 ≤ (r : Int) + n1) = true := by simp; omega
              have HZ := Lib.hid (Q.last HX.out (by omega))
              go_wp2
              go_meet
              exact ⟨by rw [HQ2.out, ← HZ.out]; exact int_eq2 (by omega), rfl⟩
          · have d1 : decide (4294967296 * (r : Int) + v0 < (q : Int) * n0) = false := by simp; omega
            have HZ := Lib.hid (Q.right (by rw [← Int.natCast_mul] at ho; omega))
            go_wp2
            go_meet
            exact ⟨by rw [HQ2.out, ← HZ.out], rfl⟩
    case rest =>
      obtain ⟨rfl, rfl⟩ := hcut
      go_wp2
      go_ret2
      refine ⟨?_, Below.refl _ _⟩
      show Ending.returned (.tuple #[.int .u64 ((q1 : Int) * 4294967296 + (q2 : Int)), .int .u64 (IntKind.u64.wrap (IntKind.u64.wrap (IntKind.u64.wrap ((r1 : Int) * 4294967296) + (v0 : Int)) - IntKind.u64.wrap ((q2 : Int) * (Y : Int))) / 2 ^ s)]) = _
      rw [HT.out, HP.out]
end Go.Proofs.Ytncbieaobadekaa
