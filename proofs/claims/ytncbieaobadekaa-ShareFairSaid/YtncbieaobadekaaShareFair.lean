/- The law ShareFair answers true. -/
import Derived.Test.YtncbieaobadekaaShareFairFn
import Derived.Test.YtncbieaobadekaaShareFairM
import Derived.Test.YtncbieaobadekaaShareAwake2
namespace Go.Proofs.Ytncbieaobadekaa
open Go.ChangeShapes Go.WideShapes Go.ChangeAt Go.RowKit
theorem fairlaw_long (t : Int) (n cap : Nat) (ao : Option Addr) (hn : n ≤ 9223372036854775807) (h : 40 < n) (w : World) :
    Calls Try.prog 5 #[.int .i64 t, .slice ao n cap] w (Ret (.bool true) w) := by
  have HX := Lib.hid (awake_any w)
  have d1 : decide ((40 : Int) < n) = true := decide_eq_true (by omega)
  have d2 : decide (40 < n) = true := decide_eq_true h
  clear hn h
  go_enter Try.func5, Try.ntmps5
  go_wp2_with fail
  refine HX.out.mono ?_
  rintro e w1 ⟨rfl, h1⟩
  go_wp2
  go_ret
  exact ⟨rfl, h1⟩
theorem fair_ans {t : Int} {z : Nat → Int} {n : Nat} {c : Int} {m : Nat} {P : Nat → Int} (hA : AppAns t z n c m P) : (c ≠ 0 ∧ m = 0) ∨ (c = 0 ∧ n = m ∧ ∃ (a : Nat) (y : Nat → Nat), t = (a : Int) ∧ (∀ i, i < n → z i = (y i : Nat)) ∧ sN y n ≤ 9223372036854775807 ∧ FairP a n y P) := by
  cases hA with
  | bad h => exact Or.inl ⟨by decide, rfl⟩
  | big ht hz h => exact Or.inl ⟨by decide, rfl⟩
  | rule ht hz h => exact Or.inl ⟨by decide, rfl⟩
  | zero ht hz h =>
    refine Or.inr ⟨rfl, rfl, 0, _, ht, nat_of hz, ?_, fair_nil n _⟩
    have := sumTo_eq n (nat_of hz)
    omega
  | parts a y f' ht a0 hz c0 hc hf => exact Or.inr ⟨rfl, rfl, a, y, ht, hz, hc, fair_port a n y f' a0 c0 hf⟩
set_option maxRecDepth 100000 in
set_option maxHeartbeats 8000000 in
theorem fairlaw_short (t : Int) (z : Nat → Int) (n cap : Nat) (ao : Option Addr) (hn : n ≤ 40) (ht : t ≤ 9223372036854775807) (hz : ∀ i, i < n → -9223372036854775808 ≤ z i ∧ z i ≤ 9223372036854775807) (w : World) (h : IntsAt w ao n z) :
    Calls Try.prog 5 #[.int .i64 t, .slice ao n cap] w (Ret (.bool true) w) := by
  have AW := Lib.hid (fun W => awake_any W)
  have HA := Lib.hid (appor_all t z n cap ao (by omega) ht (fun i hi => (hz i hi).2) w h)
  have HI := Lib.hid h
  have HT := Lib.hid ht
  have HN := Lib.hid hn
  have HZ := Lib.hid hz
  have n2 : (n : Int) ≤ 40 := by omega
  have d1 : decide ((40 : Int) < n) = false := decide_eq_false (by omega)
  have d2 : decide (40 < n) = false := decide_eq_false (by omega)
  clear hn ht hz h
  go_enter Try.func5, Try.ntmps5
  go_wp2_with fail
  refine HA.out.mono ?_
  rintro e w1 ⟨c, m, P, hans, h1, a1, k1, rfl, hi1⟩
  have H1 := Lib.hid h1
  have HI1 := Lib.hid hi1
  have HAN := Lib.hid (fair_ans hans)
  clear h1 hi1 hans HA
  rcases HAN.out with ⟨c0, rfl⟩ | ⟨rfl, rfl, a, y, rfl, hy, hs, hf⟩
  · have g : (c != 0) = true := by simpa using c0
    clear c0 HAN
    go_wp2_with fail
    refine (AW.out w1).mono ?_
    rintro e w2 ⟨rfl, h2⟩
    have H2 := Lib.hid h2
    clear h2
    go_wp2
    go_ret
    exact ⟨rfl, H1.out.trans (H2.out.mono H1.out.size)⟩
  · have HS1 : Hid (Calls Try.prog 19 #[.slice ao n cap] w1 (RetS (.tuple #[.int .i64 (sN y n : Nat), .int .i64 0]) w1)) := by
      have h1 := refsumV z n cap ao (by have := HN.out; omega) HZ.out w1 (HI.out.below H1.out)
      rwa [sumTo_eq n hy, amt_in (by omega)] at h1
    have HS2 : Hid (Calls Try.prog 19 #[.slice a1 n k1] w1 (RetS (.tuple #[.int .i64 (a : Nat), .int .i64 0]) w1)) := by
      have h1 := refsumV P n k1 a1 (by have := HN.out; omega) (fun i hi => by have := hf.nat i hi; have := hf.most i hi; have := HT.out; omega) w1 HI1.out
      rwa [hf.all, amt_in (by have := HT.out; omega)] at h1
    have HFR : Hid (∀ W i, i < n → 0 < sN y n → Calls Try.prog 20 #[.int .i64 (P i), .int .i64 (a : Nat), .int .i64 (z i), .int .i64 (sN y n : Nat)] W (Ret (.bool true) W)) := fun W i hi s0 => by
      have h0 := hf.nat i hi
      have h1 := hf.most i hi
      have h2 := HT.out
      have h3 := (HZ.out i hi).2
      have h4 := hf.part i hi s0
      obtain ⟨p, hp⟩ : ∃ p : Nat, P i = (p : Int) := ⟨(P i).toNat, by omega⟩
      rw [hy i hi] at h3 ⊢
      rw [hp] at h1 h4 ⊢
      exact fair_part p a (y i) (sN y n) (by omega) (by omega) (by omega) hs s0 (by
        rcases h4 with h4 | ⟨h4, h5⟩
        · exact Or.inl (by exact_mod_cast h4)
        · exact Or.inr ⟨by exact_mod_cast h4, h5⟩) W
    have HP1 : Hid (∀ i k, i < n → k < n → z i < z k → P i ≤ P k) := fun i k hi hk h => hf.more i k hi hk (by rw [hy i hi, hy k hk] at h; omega)
    have HP2 : Hid (∀ i k, i < n → k < i → z k = z i → P i ≤ P k) := fun i k hi hk h => hf.same i k hi hk (by rw [hy i hi, hy k (by omega)] at h; omega)
    have nn : ((n : Int) != (n : Int)) = false := by simp
    have na : ((a : Int) != (a : Int)) = false := by simp
    clear hy hf HAN HZ HT
    generalize sN y n = s at HS1 HFR hs
    go_wp2_with fail
    refine HS1.out.mono ?_
    rintro e w2 ⟨rfl, rfl⟩
    go_wp2_with fail
    refine HS2.out.mono ?_
    rintro e w2 ⟨rfl, rfl⟩
    go_wp2_with fail
    go_loopw [11] (fun iv wr => ∃ k : Nat, k ≤ n ∧ iv = .int .i64 (k : Nat) ∧ Below w1.heap.size w1 wr) (fun iv _ => n - (intOf iv).toNat)
    case atStart => exact ⟨0, Nat.zero_le _, rfl, Below.refl _ _⟩
    case round =>
      obtain ⟨k, hk, rfl, hbr⟩ := hrel
      have hk2 : (k : Int) ≤ n := by omega
      have HB := Lib.hid hbr
      clear hbr
      by_cases hlt : k < n
      · have hlt2 : (k : Int) < n := by omega
        have HL := Lib.hid hlt
        go_upto_region 13 with (fail)
        go_cut [76] (fun v wx => v = .bool false ∧ Below w1.heap.size w1 wx)
        case first =>
          obtain ⟨bb, off, rfl, hb, hc⟩ := HI.out (by omega)
          obtain ⟨bp, offp, rfl, hbp, hcp⟩ := HI1.out (by omega)
          have c1 := ((H1.out.trans (HB.out.mono H1.out.size)).cell (by exact hb)).trans (hc k hlt)
          have c2 := (HB.out.cell (by exact hbp)).trans (hcp k hlt)
          have HF := Lib.hid (fun W (s0 : 0 < s) => HFR.out W k hlt s0)
          have y1 : bb < wr.heap.size := by have := H1.out.size; have := HB.out.size; omega
          have y2 : bp < wr.heap.size := by have := HB.out.size; omega
          clear hc hcp hb hbp
          obtain ⟨x, hx⟩ : ∃ x, z k = x := ⟨_, rfl⟩
          obtain ⟨u, hu⟩ : ∃ u, P k = u := ⟨_, rfl⟩
          rw [hx] at c1 HF
          rw [hu] at c2 HF
          clear hx hu HFR
          rcases Nat.eq_zero_or_pos s with s0 | s0
          · have g : decide (0 < (s : Int)) = false := decide_eq_false (by omega)
            go_quiet (fail)
            go_wp2_with fail
            go_meet
            exact ⟨rfl, below_drewN HB.out _⟩
          · have g : decide (0 < (s : Int)) = true := decide_eq_true (by omega)
            have HF2 := Lib.hid (fun W => HF.out W s0)
            clear HF
            go_region_held3 (fun w' => w'.cell? ⟨bb, off + k, none⟩ = some (.int .i64 x) ∧ w'.cell? ⟨bp, offp + k, none⟩ = some (.int .i64 u)) (go_keep) ((go_at_call 20; refine (HF2.out _).mono ?_; rintro e w3 ⟨rfl, h3⟩; obtain ⟨hc3, _⟩ := old_cells h3; (have t1 : w3.cell? ⟨bb, off + k, none⟩ = some (.int .i64 x) := (hc3 _ _ (by simp; omega)).trans c1); (have t2 : w3.cell? ⟨bp, offp + k, none⟩ = some (.int .i64 u) := (hc3 _ _ (by simp; omega)).trans c2); (have H3 := Lib.hid h3); clear h3 hc3))
            all_goals
              go_wp2_with fail
              go_meet
              exact ⟨rfl, HB.out.drew.trans (H3.out.mono HB.out.size)⟩
        case rest =>
          obtain ⟨rfl, hb⟩ := hcut
          have HB2 := Lib.hid hb
          clear hb HB
          obtain ⟨wo, rfl⟩ : ∃ x, x = wc := ⟨_, rfl⟩
          go_wp2_with fail
          go_loopw [12] (fun iv wr => ∃ j : Nat, j ≤ k ∧ iv = .int .i64 (j : Nat) ∧ ∃ q, wr = wo.drewN q) (fun iv _ => k - (intOf iv).toNat)
          case atStart => exact ⟨0, Nat.zero_le _, rfl, 0, rfl⟩
          case round =>
            obtain ⟨j, hj, rfl, hq⟩ := hrel
            have hj2 : (j : Int) ≤ k := by omega
            have HQ := Lib.hid hq
            have HBR : Hid (Below w1.heap.size w1 wr) := by
              obtain ⟨q, e⟩ := hq
              rw [e]
              exact below_drewN HB2.out q
            clear hq
            by_cases hjt : j < k
            · have hjt2 : (j : Int) < k := by omega
              have hjn : (j : Int) < n := by omega
              have HJ := Lib.hid hjt
              obtain ⟨bb, off, rfl, hb, hc⟩ := HI.out (by omega)
              obtain ⟨bp, offp, rfl, hbp, hcp⟩ := HI1.out (by omega)
              have c1 := ((H1.out.trans (HBR.out.mono H1.out.size)).cell (by exact hb)).trans (hc k hlt)
              have c2 := (HBR.out.cell (by exact hbp)).trans (hcp k hlt)
              have c3 := ((H1.out.trans (HBR.out.mono H1.out.size)).cell (by exact hb)).trans (hc j (by omega))
              have c4 := (HBR.out.cell (by exact hbp)).trans (hcp j (by omega))
              have q1 := HP1.out k j hlt (by omega)
              have q2 := HP1.out j k (by omega) hlt
              have q3 := HP2.out k j hlt hjt
              clear hc hcp hb hbp
              obtain ⟨x, hx⟩ : ∃ x, z k = x := ⟨_, rfl⟩
              obtain ⟨u, hu⟩ : ∃ u, P k = u := ⟨_, rfl⟩
              obtain ⟨x', hx'⟩ : ∃ x, z j = x := ⟨_, rfl⟩
              obtain ⟨u', hu'⟩ : ∃ u, P j = u := ⟨_, rfl⟩
              rw [hx] at c1 q1 q2 q3
              rw [hu] at c2 q1 q2 q3
              rw [hx'] at c3 q1 q2 q3
              rw [hu'] at c4 q1 q2 q3
              clear hx hu hx' hu' HFR HS1 HS2
              rcases Int.lt_trichotomy x x' with l | l | l
              · have g1 : decide (x < x') = true := decide_eq_true l
                have g2 : decide (u' < u) = false := decide_eq_false (by have := q1 l; omega)
                have g3 : decide (x' < x) = false := decide_eq_false (by omega)
                have g4 : (x' == x) = false := by rw [beq_eq_false_iff_ne]; omega
                clear q1 q2 q3 l
                go_wp2_with fail
                go_quiet (fail)
                go_wp2_with fail
                go_roundw
                case rel => exact ⟨j + 1, HJ.out, by go_num, by
                    obtain ⟨q, e⟩ := HQ.out
                    exact ⟨q + nq, by rw [e, World.drewN_drewN]⟩⟩
                case measure => have := HJ.out; simp [intOf]; omega
              · have g1 : decide (x < x') = false := decide_eq_false (by omega)
                have g2 : decide (u' < u) = false := decide_eq_false (by have := q3 l.symm; omega)
                have g3 : decide (x' < x) = false := decide_eq_false (by omega)
                have g4 : (x' == x) = true := by rw [beq_iff_eq]; omega
                clear q1 q2 q3 l
                go_wp2_with fail
                go_quiet (fail)
                go_wp2_with fail
                go_roundw
                case rel => exact ⟨j + 1, HJ.out, by go_num, by
                    obtain ⟨q, e⟩ := HQ.out
                    exact ⟨q + nq, by rw [e, World.drewN_drewN]⟩⟩
                case measure => have := HJ.out; simp [intOf]; omega
              · have g1 : decide (x < x') = false := decide_eq_false (by omega)
                have g2 : decide (u < u') = false := decide_eq_false (by have := q2 l; omega)
                have g3 : decide (x' < x) = true := decide_eq_true l
                have g4 : (x' == x) = false := by rw [beq_eq_false_iff_ne]; omega
                clear q1 q2 q3 l
                go_wp2_with fail
                go_quiet (fail)
                go_wp2_with fail
                go_roundw
                case rel => exact ⟨j + 1, HJ.out, by go_num, by
                    obtain ⟨q, e⟩ := HQ.out
                    exact ⟨q + nq, by rw [e, World.drewN_drewN]⟩⟩
                case measure => have := HJ.out; simp [intOf]; omega
            · obtain rfl : j = k := by omega
              clear hjt hj
              go_wp2_with fail
              go_roundw
              case rel => exact ⟨j + 1, HL.out, by go_num, HBR.out⟩
              case measure => have := HL.out; simp [intOf]; omega
      · obtain rfl : k = n := by omega
        clear hlt
        go_wp2_with fail
        refine (AW.out _).mono ?_
        rintro e w3 ⟨rfl, h3⟩
        have H3 := Lib.hid h3
        clear h3
        go_wp2_with fail
        go_ret
        have hb := HB.out.trans (H3.out.mono HB.out.size)
        exact ⟨rfl, H1.out.trans (hb.mono H1.out.size)⟩
end Go.Proofs.Ytncbieaobadekaa
