/- complineref01.Mul: by schoolbook, for any two amounts. -/
import Derived.Test.YtcclhblkchghbaaDoorWideMath
import Derived.Test.YtcclhblkchghbaaDoorMoneyCode2
import Derived.RegionTactic
import Derived.ChangeAlike
import Derived.BigRegion
import Derived.OneCell
namespace Go.Proofs.YtcclhblkchghbaaDoor
open Go.ChangeShapes Go.WideShapes Go.ChangeAt Go.RowKit
def MSt (a b i k B T : Nat) (W wr : World) (f : Nat → Nat) : Prop := Part a b i k f ∧ wr.heap[B]? = some (.cells (row8 f) T (0, 0)) ∧ Below B W wr
theorem MSt.next {a b i k B T : Nat} {W wr : World} {f : Nat → Nat} (h : MSt a b i k B T W wr f) (hk : k < 4) (hi : i < 4) :
    MSt a b i (k + 1) B T W (wr.setCell ⟨B, i + k, none⟩ (.int .u64 ((f (i + k) : Int) + (dg a i : Int) * (dg b k : Int)))).drew (upd f (i + k) (f (i + k) + dg a i * dg b k)) := by
  obtain ⟨h1, h2, h3⟩ := h
  have e : ((f (i + k) : Int) + (dg a i : Int) * (dg b k : Int)) = ((f (i + k) + dg a i * dg b k : Nat) : Int) := by rw [Int.natCast_add, Int.natCast_mul]
  refine ⟨h1.next hk hi, ?_, (h3.setCell (by exact Nat.le_refl _) _).drew⟩
  rw [e]
  exact row8_store h2 _ _ (by omega)
def CSt (N j B T : Nat) (W wr : World) (g : Nat → Nat) (c : Nat) : Prop := Carry N j g c ∧ wr.heap[B]? = some (.cells (row8 g) T (0, 0)) ∧ Below B W wr
theorem CSt.next {N j c B T : Nat} {W wr : World} {g : Nat → Nat} (h : CSt N j B T W wr g c) (hj : j < 8) :
    CSt N (j + 1) B T W ((wr.setCell ⟨B, j, none⟩ (.int .u64 ((g j : Int) + (c : Int)))).setCell ⟨B, j, none⟩ (.int .u64 (bits .and .u64 ((g j : Int) + (c : Int)) 65535))) (upd g j ((g j + c) % 65536)) ((g j + c) / 65536) := by
  obtain ⟨h1, h2, h3⟩ := h
  have l1 := h1.le j
  have l2 := h1.cle
  have e : ((g j : Int) + (c : Int)) = ((g j + c : Nat) : Int) := by rw [Int.natCast_add]
  refine ⟨h1.next hj, ?_, (h3.setCell (by exact Nat.le_refl _) _).setCell (by exact Nat.le_refl _) _⟩
  rw [e, and16 _ (by omega), ← upd_upd g j (g j + c)]
  exact row8_store (row8_store h2 _ _ hj) _ _ hj
theorem Part.carry {a b : Nat} {f : Nat → Nat} (h : Part a b 4 0 f) (ha : a < 18446744073709551616) : Carry (a * b) 0 f 0 :=
  ⟨by omega, by rw [Nat.zero_mul, Nat.add_zero]; exact h.done ha, fun i hi => absurd hi (Nat.not_lt_zero i), fun i => by have := h.le i; omega, by omega⟩
theorem mul_sgn (x y : Int) : x * y = sgn (x.natAbs * y.natAbs) (decide (x < 0) != decide (y < 0)) := by
  have e : ((x.natAbs * y.natAbs : Nat) : Int) = (x.natAbs : Int) * (y.natAbs : Int) := Int.natCast_mul _ _
  by_cases cx : x < 0 <;> by_cases cy : y < 0
  · rw [decide_eq_true cx, decide_eq_true cy]
    show x * y = ((x.natAbs * y.natAbs : Nat) : Int)
    rw [e, show (x.natAbs : Int) = -x from by omega, show (y.natAbs : Int) = -y from by omega, Int.neg_mul_neg]
  · rw [decide_eq_true cx, decide_eq_false cy]
    show x * y = -((x.natAbs * y.natAbs : Nat) : Int)
    rw [e, show (x.natAbs : Int) = -x from by omega, show (y.natAbs : Int) = y from by omega, Int.neg_mul, Int.neg_neg]
  · rw [decide_eq_false cx, decide_eq_true cy]
    show x * y = -((x.natAbs * y.natAbs : Nat) : Int)
    rw [e, show (x.natAbs : Int) = x from by omega, show (y.natAbs : Int) = -y from by omega, Int.mul_neg, Int.neg_neg]
  · rw [decide_eq_false cx, decide_eq_false cy]
    show x * y = ((x.natAbs * y.natAbs : Nat) : Int)
    rw [e, show (x.natAbs : Int) = x from by omega, show (y.natAbs : Int) = y from by omega]
/-- What the digits come to, at the end. -/
theorem Carry.tells {N c : Nat} {g : Nat → Nat} (h : Carry N 8 g c) (hN : N < 340282366920938463463374607431768211456) :
    (g 0 < 65536 ∧ g 1 < 65536 ∧ g 2 < 65536 ∧ g 3 < 65536 ∧ g 4 < 65536 ∧ g 5 < 65536 ∧ g 6 < 65536 ∧ g 7 < 65536) ∧
      N = g 0 + 65536 * g 1 + 4294967296 * g 2 + 281474976710656 * g 3 + 18446744073709551616 * (g 4 + 65536 * g 5 + 4294967296 * g 6 + 281474976710656 * g 7) := by
  have d0 := h.dig 0 (by omega)
  have d1 := h.dig 1 (by omega)
  have d2 := h.dig 2 (by omega)
  have d3 := h.dig 3 (by omega)
  have d4 := h.dig 4 (by omega)
  have d5 := h.dig 5 (by omega)
  have d6 := h.dig 6 (by omega)
  have d7 := h.dig 7 (by omega)
  refine ⟨⟨d0, d1, d2, d3, d4, d5, d6, d7⟩, ?_⟩
  have e : val8 g = N := by
    have h1 := h.val
    have h2 : N < 65536 ^ 8 := by simp only [Nat.reducePow]; exact hN
    generalize 65536 ^ 8 = K at h1 h2
    rcases Nat.eq_zero_or_pos c with hc | hc
    · rw [hc, Nat.zero_mul, Nat.add_zero] at h1; exact h1
    · have h3 := Nat.le_mul_of_pos_left K hc
      omega
  rw [← e]
  unfold val8 put8
  omega
theorem dg_shift (a i : Nat) (ha : a < 18446744073709551616) : bits .and .u64 ((a : Int) / 2 ^ (16 * i)) 65535 = ((dg a i : Nat) : Int) := by
  have e : (2 : Int) ^ (16 * i) = ((65536 ^ i : Nat) : Int) := by
    rw [Int.pow_mul, Int.natCast_pow]
    rfl
  rw [e, ← Int.natCast_ediv, and16 _ (Nat.lt_of_le_of_lt (Nat.div_le_self _ _) ha)]
  rfl
set_option maxRecDepth 100000 in
set_option maxHeartbeats 2000000 in
theorem refmul_any (x y : Int) (hx : -9223372036854775808 ≤ x ∧ x ≤ 9223372036854775807) (hy : -9223372036854775808 ≤ y ∧ y ≤ 9223372036854775807) (w : World) :
    Calls Tryd.prog 15 #[.int .i64 x, .int .i64 y] w (Ret (amt (x * y)) w) := by
  have HX := Lib.hid (fun (w : World) => refsize_any x hx w)
  have HY := Lib.hid (fun (w : World) => refsize_any y hy w)
  have ha : (x.natAbs : Int) ≤ 9223372036854775808 := by omega
  have hb : (y.natAbs : Int) ≤ 9223372036854775808 := by omega
  obtain ⟨a, hxa⟩ : ∃ a, x.natAbs = a := ⟨_, rfl⟩
  obtain ⟨b, hyb⟩ : ∃ b, y.natAbs = b := ⟨_, rfl⟩
  rw [hxa] at HX ha
  rw [hyb] at HY hb
  have HA := Lib.hid hxa
  have HB := Lib.hid hyb
  have HX2 := Lib.hid hx
  have HY2 := Lib.hid hy
  have HAB := Lib.hid ha
  clear hxa hyb hx hy
  go_enter Tryd.func15, Tryd.ntmps15
  go_wp2_with fail
  refine (HX.out _).mono ?_
  rintro e w1 ⟨rfl, rfl⟩
  go_wp2_with fail
  refine (HY.out _).mono ?_
  rintro e w1 ⟨rfl, rfl⟩
  go_wp2
  go_loopw [9] (fun iv wr => ∃ i f, iv = .int .i64 (i : Nat) ∧ MSt a b i 0 w.heap.size 45 (w.alloc (.cells (row8 (fun _ => 0)) 45)) wr f) (fun iv _ => 4 - (intOf iv).toNat)
  case atStart =>
    exact ⟨0, fun _ => 0, rfl, Part.start _ _ _ (fun _ => rfl), heap_alloc_new _ _, Below.refl _ _⟩
  case round =>
    obtain ⟨i, f, rfl, hM⟩ := hrel
    have hi4 := hM.1.i4
    by_cases hlt : i < 4
    · go_wp2
      obtain ⟨wo, rfl⟩ : ∃ wo : World, wo = wr := ⟨_, rfl⟩
      go_loopw [10] (fun kv wr => ∃ k f, kv = .int .i64 (k : Nat) ∧ MSt a b i k w.heap.size 45 (w.alloc (.cells (row8 (fun _ => 0)) 45)) wr f) (fun kv _ => 4 - (intOf kv).toNat)
      case atStart => exact ⟨0, f, rfl, hM⟩
      case round =>
        clear hM
        obtain ⟨k, f, rfl, hM⟩ := hrel
        have hk4 := hM.1.k4
        by_cases hlk : k < 4
        · have c1 := row8_cell hM.2.1 (i + k) (by omega)
          have c2 := row8_free hM.2.1 (i + k)
          have b1 := pb (dg_lt a i) (dg_lt b k)
          have b2 := @pb0 (dg a i) (dg b k)
          have b3 : (f (i + k) : Int) ≤ 100000000000 := by
            have := hM.1.le (i + k)
            have : 4294836225 * (4 * i + k) ≤ 4294836225 * 20 := Nat.mul_le_mul_left _ (by omega)
            omega
          have q1 := dg_shift a i (by omega)
          have q2 := dg_shift b k (by omega)
          go_wp2
          go_region
          go_wp2
          go_roundw
          case rel => exact ⟨k + 1, _, by go_num, hM.next hlk hlt⟩
          case measure => simp [intOf]; omega
        · obtain rfl : k = 4 := by omega
          go_wp2
          go_roundw
          case rel => exact ⟨i + 1, f, by go_num, hM.1.row (by omega) hlt, hM.2⟩
          case measure => simp [intOf]; omega
    · obtain rfl : i = 4 := by omega
      go_wp2
      go_loopw [11, 12] (fun cv jv wr => ∃ j g c, cv = .int .u64 (c : Nat) ∧ jv = .int .i64 (j : Nat) ∧ CSt (a * b) j w.heap.size 45 (w.alloc (.cells (row8 (fun _ => 0)) 45)) wr g c) (fun _ jv _ => 8 - (intOf jv).toNat)
      case atStart => exact ⟨0, f, 0, rfl, rfl, hM.1.carry (by omega), hM.2⟩
      case round =>
        clear hM
        obtain ⟨j, g, c, rfl, rfl, hC⟩ := hrel
        have hj8 := hC.1.j8
        by_cases hlj : j < 8
        · have c1 := row8_cell hC.2.1 j hlj
          have c2 := row8_free hC.2.1 j
          have b1 : (g j : Int) ≤ 100000000000 := by have := hC.1.le j; omega
          have b2 : (c : Int) ≤ 100000000000 := by have := hC.1.cle; omega
          go_wp2
          go_roundw
          case rel => exact ⟨j + 1, _, _, by go_num, by go_num, hC.next hlj⟩
          case measure => simp [intOf]; omega
        · obtain rfl : j = 8 := by omega
          have hN : a * b < 340282366920938463463374607431768211456 := by
            have := Nat.mul_le_mul (show a ≤ 9223372036854775808 by omega) (show b ≤ 9223372036854775808 by omega)
            omega
          obtain ⟨⟨d0, d1, d2, d3, d4, d5, d6, d7⟩, hval⟩ := hC.1.tells hN
          have g0 := row8_cell hC.2.1 0 (by omega)
          have g1 := row8_cell hC.2.1 1 (by omega)
          have g2 := row8_cell hC.2.1 2 (by omega)
          have g3 := row8_cell hC.2.1 3 (by omega)
          have g4 := row8_cell hC.2.1 4 (by omega)
          have g5 := row8_cell hC.2.1 5 (by omega)
          have g6 := row8_cell hC.2.1 6 (by omega)
          have g7 := row8_cell hC.2.1 7 (by omega)
          have HBel := Lib.hid hC.2.2
          have HM : Hid (x * y = sgn (a * b) (decide (x < 0) != decide (y < 0))) := by
            show _ = _
            rw [mul_sgn, HA.out, HB.out]
          clear hC hN
          generalize a * b = N at *
          generalize g 0 = x0 at *
          generalize g 1 = x1 at *
          generalize g 2 = x2 at *
          generalize g 3 = x3 at *
          generalize g 4 = x4 at *
          generalize g 5 = x5 at *
          generalize g 6 = x6 at *
          generalize g 7 = x7 at *
          obtain ⟨n, hn⟩ : ∃ n : Nat, n = x0 + 65536 * x1 + 4294967296 * x2 + 281474976710656 * x3 := ⟨_, rfl⟩
          have b0 : (x0 : Int) < 65536 := by omega
          have b1 : (x1 : Int) < 65536 := by omega
          have b2 : (x2 : Int) < 65536 := by omega
          have b3 : (x3 : Int) < 65536 := by omega
          have b4 : (x4 : Int) < 65536 := by omega
          have b5 : (x5 : Int) < 65536 := by omega
          have b6 : (x6 : Int) < 65536 := by omega
          have b7 : (x7 : Int) < 65536 := by omega
          have HV := Lib.hid hval
          have HN := Lib.hid hn
          clear hval hn d0 d1 d2 d3 d4 d5 d6 d7
          go_upto_region 19 with (fail)
          rw [show ((x0 : Int) + x1 * 65536 + x2 * 4294967296 + x3 * 281474976710656) = ((n : Nat) : Int) from by have := HN.out; omega]
          have hz : (x0 : Int) + x1 * 65536 + x2 * 4294967296 + x3 * 281474976710656 = n := by have := HN.out; omega
          have n1 : (n : Int) ≤ 18446744073709551615 := by omega
          have HNV : Hid (N = n + 18446744073709551616 * (x4 + 65536 * x5 + 4294967296 * x6 + 281474976710656 * x7)) := by
            show _ = _
            have h1 := HV.out
            have h2 := HN.out
            omega
          clear hz b0 b1 b2 b3 g0 g1 g2 g3 HV HN
          by_cases cs : 0 < (x4 : Int) + x5 + x6 + x7
          · have hov : ¬ (-9223372036854775808 ≤ x * y ∧ x * y ≤ 9223372036854775807) := by
              have h1 := HNV.out
              have h2 := HM.out
              have : 18446744073709551616 ≤ N := by omega
              unfold sgn at h2
              split at h2 <;> omega
            have HO := Lib.hid (amt_out hov)
            clear hov
            by_cases cx : x < 0 <;> by_cases cy : y < 0
            all_goals
              go_wp2
              go_ret2
              exact ⟨by rw [HO.out]; rfl, ((Below.refl _ _).alloc (Nat.le_refl _) _).trans (HBel.out.mono (by simp))⟩
          · have HNn : Hid (N = n) := by
              show _ = _
              have h1 := HNV.out
              omega
            have n0 : (0 : Int) ≤ n := by omega
            rw [HNn.out] at HM
            clear HNV HNn
            have HBelow := Lib.hid (((Below.refl w.heap.size w).alloc (Nat.le_refl _) (.cells (row8 (fun _ => 0)) 45)).trans (HBel.out.mono (by simp)))
            clear HBel
            by_cases cn : 9223372036854775808 < (n : Int)
            · have HO := Lib.hid (amt_out (n := x * y) (by rw [HM.out]; unfold sgn; split <;> omega))
              clear n1
              by_cases cx : x < 0 <;> by_cases cy : y < 0
              all_goals
                go_wp2
                go_ret2
                exact ⟨by rw [HO.out]; rfl, HBelow.out⟩
            · by_cases cx : x < 0 <;> by_cases cy : y < 0
              · have hs : sgn n (decide (x < 0) != decide (y < 0)) = n := by rw [decide_eq_true cx, decide_eq_true cy]; rfl
                rw [hs] at HM
                clear hs
                by_cases cn2 : (n : Int) = 9223372036854775808
                · have HO := Lib.hid (amt_out (n := x * y) (by rw [HM.out]; omega))
                  have q : ((n : Int) == 9223372036854775808) = true := by rw [beq_iff_eq]; exact cn2
                  clear cn2 n1
                  go_wp2
                  go_ret2
                  exact ⟨by rw [HO.out]; rfl, HBelow.out⟩
                · have HO := Lib.hid (amt_in (n := x * y) (by rw [HM.out]; omega))
                  have q : ((n : Int) == 9223372036854775808) = false := by rw [beq_eq_false_iff_ne]; exact cn2
                  have n2 : (n : Int) ≤ 9223372036854775807 := by omega
                  clear cn2 n1
                  go_wp2
                  go_ret2
                  exact ⟨by rw [HO.out, HM.out]; rfl, HBelow.out⟩
              · have hs : sgn n (decide (x < 0) != decide (y < 0)) = -(n : Int) := by rw [decide_eq_true cx, decide_eq_false cy]; rfl
                rw [hs] at HM
                clear hs
                have HO := Lib.hid (amt_in (n := x * y) (by rw [HM.out]; omega))
                by_cases cp : 0 < (n : Int)
                · have HE := Lib.hid (show -((n : Int) - 1) - 1 = -(n : Int) by omega)
                  clear n1
                  have q2 : decide (0 < (n : Int)) = true := by simp; omega
                  have q3 : decide (0 < n) = true := by simp; omega
                  obtain ⟨t, q⟩ : ∃ t, ((n : Int) == 9223372036854775808) = t := ⟨_, rfl⟩
                  cases t
                  all_goals
                    go_wp2
                    go_ret2
                    exact ⟨by rw [HO.out, HM.out, ← HE.out]; rfl, HBelow.out⟩
                · have HE := Lib.hid (show (n : Int) = -(n : Int) by omega)
                  have q : ((n : Int) == 9223372036854775808) = false := by rw [beq_eq_false_iff_ne]; omega
                  have q2 : decide (0 < (n : Int)) = false := by simp; omega
                  have q3 : decide (0 < n) = false := by simp; omega
                  clear n1
                  go_wp2
                  all_goals
                    go_ret2
                    exact ⟨by rw [HO.out, HM.out, ← HE.out]; rfl, HBelow.out⟩
              · have hs : sgn n (decide (x < 0) != decide (y < 0)) = -(n : Int) := by rw [decide_eq_false cx, decide_eq_true cy]; rfl
                rw [hs] at HM
                clear hs
                have HO := Lib.hid (amt_in (n := x * y) (by rw [HM.out]; omega))
                by_cases cp : 0 < (n : Int)
                · have HE := Lib.hid (show -((n : Int) - 1) - 1 = -(n : Int) by omega)
                  clear n1
                  have q2 : decide (0 < (n : Int)) = true := by simp; omega
                  have q3 : decide (0 < n) = true := by simp; omega
                  obtain ⟨t, q⟩ : ∃ t, ((n : Int) == 9223372036854775808) = t := ⟨_, rfl⟩
                  cases t
                  all_goals
                    go_wp2
                    go_ret2
                    exact ⟨by rw [HO.out, HM.out, ← HE.out]; rfl, HBelow.out⟩
                · have HE := Lib.hid (show (n : Int) = -(n : Int) by omega)
                  have q : ((n : Int) == 9223372036854775808) = false := by rw [beq_eq_false_iff_ne]; omega
                  have q2 : decide (0 < (n : Int)) = false := by simp; omega
                  have q3 : decide (0 < n) = false := by simp; omega
                  clear n1
                  go_wp2
                  all_goals
                    go_ret2
                    exact ⟨by rw [HO.out, HM.out, ← HE.out]; rfl, HBelow.out⟩
              · have hs : sgn n (decide (x < 0) != decide (y < 0)) = n := by rw [decide_eq_false cx, decide_eq_false cy]; rfl
                rw [hs] at HM
                clear hs
                by_cases cn2 : (n : Int) = 9223372036854775808
                · have HO := Lib.hid (amt_out (n := x * y) (by rw [HM.out]; omega))
                  have q : ((n : Int) == 9223372036854775808) = true := by rw [beq_iff_eq]; exact cn2
                  clear cn2 n1
                  go_wp2
                  go_ret2
                  exact ⟨by rw [HO.out]; rfl, HBelow.out⟩
                · have HO := Lib.hid (amt_in (n := x * y) (by rw [HM.out]; omega))
                  have q : ((n : Int) == 9223372036854775808) = false := by rw [beq_eq_false_iff_ne]; exact cn2
                  have n2 : (n : Int) ≤ 9223372036854775807 := by omega
                  clear cn2 n1
                  go_wp2
                  go_ret2
                  exact ⟨by rw [HO.out, HM.out]; rfl, HBelow.out⟩
end Go.Proofs.YtcclhblkchghbaaDoor
