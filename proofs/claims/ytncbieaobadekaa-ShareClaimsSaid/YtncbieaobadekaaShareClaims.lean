/- The law ShareClaims answers true. -/
import Derived.Test.YtncbieaobadekaaShareFairFn
import Derived.Test.YtncbieaobadekaaShareFairM
import Derived.Test.YtncbieaobadekaaShareLostQ
import Derived.Test.YtncbieaobadekaaShareAwake2
import Derived.IntWalk
namespace Go.Proofs.Ytncbieaobadekaa
open Go.ChangeShapes Go.WideShapes Go.ChangeAt Go.RowKit
theorem claims_long (t : Int) (n cap : Nat) (ao : Option Addr) (hn : n ≤ 9223372036854775807) (h : 40 < n) (w : World) :
    Calls Try.prog 6 #[.int .i64 t, .slice ao n cap] w (Ret (.bool true) w) := by
  have HX := Lib.hid (awake_any w)
  have d1 : decide ((40 : Int) < n) = true := decide_eq_true (by omega)
  have d2 : decide (40 < n) = true := decide_eq_true h
  clear hn h
  go_enter Try.func6, Try.ntmps6
  go_wp2_with fail
  refine HX.out.mono ?_
  rintro e w1 ⟨rfl, h1⟩
  go_wp2
  go_ret
  exact ⟨rfl, h1⟩
/-- What is fair of what P of a is given to claims z, s together. -/
structure FairC (a s n : Nat) (z P : Nat → Int) : Prop where
  sum : sumTo z n = (s : Int)
  all : sumTo P n = ((if a < s then a else s : Nat) : Int)
  nat : ∀ i, i < n → 0 ≤ P i
  most : ∀ i, i < n → P i ≤ z i
  part : a < s → ∀ i, i < n → ∃ p y : Nat, P i = (p : Int) ∧ z i = (y : Int) ∧ (p = a * y / s ∨ (p = a * y / s + 1 ∧ 0 < a * y % s))
theorem claims_ans {t : Int} {z : Nat → Int} {n : Nat} {c : Int} {m : Nat} {P : Nat → Int} (hA : AllAns t z n c m P) : (c ≠ 0 ∧ m = 0) ∨ (c = 0 ∧ n = m ∧ ∃ a s : Nat, t = (a : Int) ∧ s ≤ 9223372036854775807 ∧ FairC a s n z P) := by
  cases hA with
  | bad h => exact Or.inl ⟨by decide, rfl⟩
  | big ht hz h => exact Or.inl ⟨by decide, rfl⟩
  | whole ht hz h hm =>
    have h0 := sumTo_pos n hz
    refine Or.inr ⟨rfl, rfl, t.toNat, (sumTo z n).toNat, by omega, by omega, by omega, ?_, hz, fun i _ => Int.le_refl _, fun h => by omega⟩
    rw [if_neg (by omega)]
    omega
  | parts a y f' ht hz c0 hc hf =>
    refine Or.inr ⟨rfl, rfl, a, sN y n, ht, hc, ?_⟩
    have s0 : 0 < sN y n := by omega
    have hP : FairP a n y (portP a n y f') := by
      rcases Nat.eq_zero_or_pos a with rfl | a0
      · rw [show portP 0 n y f' = fun _ => 0 from funext fun i => portP_zero n y f' i]
        exact fair_nil n y
      · exact fair_port a n y f' a0 s0 hf
    have hpart : ∀ i, i < n → ∃ p q : Nat, portP a n y f' i = (p : Int) ∧ z i = (q : Int) ∧ (p = a * q / sN y n ∨ (p = a * q / sN y n + 1 ∧ 0 < a * q % sN y n)) := fun i hi => by
      rcases hP.part i hi s0 with h | ⟨h, h1⟩
      · exact ⟨_, y i, h, hz i hi, Or.inl rfl⟩
      · exact ⟨_, y i, h, hz i hi, Or.inr ⟨rfl, h1⟩⟩
    refine ⟨sumTo_eq n hz, by rw [hP.all, if_pos c0], hP.nat, fun i hi => ?_, fun _ => hpart⟩
    obtain ⟨p, q, hp, hq, h⟩ := hpart i hi
    rw [hp, hq]
    have e := Nat.div_add_mod (a * q) (sN y n)
    have l : a * q ≤ sN y n * q := Nat.mul_le_mul_right q (by omega)
    generalize a * q / sN y n = d at h e
    generalize a * q % sN y n = r at h e
    rcases h with rfl | ⟨rfl, h1⟩
    · have : p ≤ q := Nat.le_of_mul_le_mul_left (by omega) s0
      omega
    · have : d < q := Nat.lt_of_mul_lt_mul_left (a := sN y n) (by omega)
      omega
set_option maxRecDepth 100000 in
set_option maxHeartbeats 8000000 in
theorem claims_short (t : Int) (z : Nat → Int) (n cap : Nat) (ao : Option Addr) (hn : n ≤ 40) (ht : t ≤ 9223372036854775807) (hz : ∀ i, i < n → -9223372036854775808 ≤ z i ∧ z i ≤ 9223372036854775807) (w : World) (h : IntsAt w ao n z) :
    Calls Try.prog 6 #[.int .i64 t, .slice ao n cap] w (Ret (.bool true) w) := by
  have AW := Lib.hid (fun W => awake_any W)
  have HA := Lib.hid (alloc_all t z n cap ao (by omega) ht (fun i hi => (hz i hi).2) w h)
  have HI := Lib.hid h
  have HT := Lib.hid ht
  have HN := Lib.hid hn
  have HZ := Lib.hid hz
  have n2 : (n : Int) ≤ 40 := by omega
  have d1 : decide ((40 : Int) < n) = false := decide_eq_false (by omega)
  have d2 : decide (40 < n) = false := decide_eq_false (by omega)
  clear hn ht hz h
  go_enter Try.func6, Try.ntmps6
  go_wp2_with fail
  refine HA.out.mono ?_
  rintro e w1 ⟨c, m, P, hans, h1, a1, k1, rfl, hi1⟩
  have H1 := Lib.hid h1
  have HI1 := Lib.hid hi1
  have HAN := Lib.hid (claims_ans hans)
  clear h1 hi1 hans HA
  rcases HAN.out with ⟨c0, rfl⟩ | ⟨rfl, rfl, a, s, rfl, hs, hf⟩
  · have g : (c != 0) = true := by simpa using c0
    clear c0 HAN
    go_wp2_with fail
    refine (AW.out w1).mono ?_
    rintro e w2 ⟨rfl, h2⟩
    have H2 := Lib.hid h2
    clear h2
    go_wp2
    go_ret
    exact ⟨rfl, H1.out.trans (H2.out.mono H1.out.size)⟩
  · have hb : ∀ i, i < n → -9223372036854775808 ≤ P i ∧ P i ≤ 9223372036854775807 := fun i hi => by have := hf.nat i hi; have := hf.most i hi; have := (HZ.out i hi).2; omega
    have HS1 : Hid (Calls Try.prog 19 #[.slice ao n cap] w1 (RetS (.tuple #[.int .i64 (s : Nat), .int .i64 0]) w1)) := by
      have h1 := refsumV z n cap ao (by have := HN.out; omega) HZ.out w1 (HI.out.below H1.out)
      rwa [hf.sum, amt_in (by omega)] at h1
    have hm : (if a < s then a else s) ≤ 9223372036854775807 := by split <;> omega
    have HS2 : Hid (Calls Try.prog 19 #[.slice a1 n k1] w1 (RetS (.tuple #[.int .i64 ((if a < s then a else s : Nat) : Int), .int .i64 0]) w1)) := by
      have h1 := refsumV P n k1 a1 (by have := HN.out; omega) hb w1 HI1.out
      rwa [hf.all, amt_in (by omega)] at h1
    have HL := Lib.hid (lost_q z P n cap n k1 ao a1 (by have := HN.out; omega) (by have := HN.out; omega) HZ.out w1 (HI.out.below H1.out) HI1.out)
    have HFT : Hid (Fits z P n n) := ⟨rfl, fun i hi => ⟨hf.nat i hi, hf.most i hi⟩⟩
    have HFR : Hid (∀ W i, i < n → a < s → Calls Try.prog 20 #[.int .i64 (P i), .int .i64 (a : Nat), .int .i64 (z i), .int .i64 (s : Nat)] W (Ret (.bool true) W)) := fun W i hi s0 => by
      have h1 := (hb i hi).2
      have h2 := HT.out
      have h3 := (HZ.out i hi).2
      obtain ⟨p, y, hp, hy, h4⟩ := hf.part s0 i hi
      rw [hy] at h3 ⊢
      rw [hp] at h1 ⊢
      exact fair_part p a y s (by omega) (by omega) (by omega) hs (by omega) h4 W
    have nn : ((n : Int) != (n : Int)) = false := by simp
    clear hf hb HAN HT hm
    obtain ⟨v, hv⟩ : ∃ v : Nat, v = if a < s then a else s := ⟨_, rfl⟩
    rw [← hv] at HS2
    have hvm : (v : Int) = min (a : Int) (s : Int) := by rw [hv]; split <;> omega
    clear hv
    go_wp2_with fail
    refine HS1.out.mono ?_
    rintro e w2 ⟨rfl, rfl⟩
    go_wp2_with fail
    refine HS2.out.mono ?_
    rintro e w2 ⟨rfl, rfl⟩
    go_wp2_with fail
    refine HL.out.mono ?_
    rintro e w2 ⟨h2, lo, ln, lc, ev, rfl, hr⟩
    obtain ⟨hln, rfl, hlost⟩ : ln = n ∧ ev = 0 ∧ IntsAt w2 lo n (fun i => z i - P i) := hr.elim And.right (fun h => absurd HFT.out h.1)
    obtain rfl := hln.symm
    clear hr
    have H2 := Lib.hid h2
    have HW2 := Lib.hid (H1.out.trans (h2.mono H1.out.size))
    have HI12 := Lib.hid (HI1.out.below h2)
    have HLT := Lib.hid hlost
    clear h2 hlost HS1 HS2 HL H1 HI1
    go_upto_region 9 with fail
    go_wp2_with fail
    clear hvm
    go_loopw [13] (fun iv wr => ∃ k : Nat, k ≤ n ∧ iv = .int .i64 (k : Nat) ∧ Below w2.heap.size w2 wr) (fun iv _ => n - (intOf iv).toNat)
    case atStart => exact ⟨0, Nat.zero_le _, rfl, Below.refl _ _⟩
    case round =>
      obtain ⟨k, hk, rfl, hbr⟩ := hrel
      have hk2 : (k : Int) ≤ n := by omega
      have HB := Lib.hid hbr
      clear hbr
      by_cases hlt : k < n
      · have hlt2 : (k : Int) < n := by omega
        have HLK := Lib.hid hlt
        go_upto_region 14 with (fail)
        go_cut [131] (fun v wx => v = .bool false ∧ Below w2.heap.size w2 wx)
        case first =>
          obtain ⟨bb, off, rfl, hb, hc⟩ := HI.out (by omega)
          obtain ⟨bp, offp, rfl, hbp, hcp⟩ := HI12.out (by omega)
          obtain ⟨bl, offl, rfl, hbl, hcl⟩ := HLT.out (by omega)
          have c1 := ((HW2.out.trans (HB.out.mono HW2.out.size)).cell (by exact hb)).trans (hc k hlt)
          have c2 := (HB.out.cell (by exact hbp)).trans (hcp k hlt)
          have c3 : wr.cell? ⟨bl, offl + k, none⟩ = some (.int .i64 (z k - P k)) := (HB.out.cell (by exact hbl)).trans (hcl k hlt)
          have HF := Lib.hid (fun W (s0 : a < s) => HFR.out W k hlt s0)
          have y1 : bb < wr.heap.size := by have := HW2.out.size; have := HB.out.size; omega
          have y2 : bp < wr.heap.size := by have := HB.out.size; omega
          have y3 : bl < wr.heap.size := by have := HB.out.size; omega
          have hz := (HZ.out k hlt).2
          have hf := HFT.out.2 k hlt
          have dn : 0 ≤ (k : Int) := by omega
          clear hc hcp hcl hb hbp hbl
          obtain ⟨x, hx⟩ : ∃ x, z k = x := ⟨_, rfl⟩
          obtain ⟨u, hu⟩ : ∃ u, P k = u := ⟨_, rfl⟩
          rw [hx] at c1 c3 HF hz hf
          rw [hu] at c2 c3 HF hf
          have g1 : decide (u < 0) = false := decide_eq_false (by omega)
          have g2 : decide (x < u) = false := decide_eq_false (by omega)
          have hbb : ((x - u) != (x - u)) = false := by simp
          rcases Nat.lt_or_ge a s with s0 | s0
          · have g : decide ((a : Int) < (s : Int)) = true := decide_eq_true (by omega)
            have g' : decide (a < s) = true := decide_eq_true s0
            have HF2 := Lib.hid (fun W => HF.out W s0)
            have hw : IntKind.i64.wrap (x - u) = x - u := IntWalk.i64_in _ (by omega)
            clear HF hx hu HFR hz hf
            go_region_held3 (fun w' => w'.cell? ⟨bb, off + k, none⟩ = some (.int .i64 x) ∧ w'.cell? ⟨bp, offp + k, none⟩ = some (.int .i64 u) ∧ w'.cell? ⟨bl, offl + k, none⟩ = some (.int .i64 (x - u))) (go_keep) ((go_at_call 20; refine (HF2.out _).mono ?_; clear hw; rintro e w3 ⟨rfl, h3⟩; obtain ⟨hc3, _⟩ := old_cells h3; (have t1 : w3.cell? ⟨bb, off + k, none⟩ = some (.int .i64 x) := (hc3 _ _ (by simp; omega)).trans c1); (have t2 : w3.cell? ⟨bp, offp + k, none⟩ = some (.int .i64 u) := (hc3 _ _ (by simp; omega)).trans c2); (have t3 : w3.cell? ⟨bl, offl + k, none⟩ = some (.int .i64 (x - u)) := (hc3 _ _ (by simp; omega)).trans c3); (have H3 := Lib.hid h3); clear h3 hc3))
            all_goals
              go_wp2_with fail
              go_meet
              exact ⟨rfl, HB.out.drew.trans (H3.out.mono HB.out.size)⟩
          · have g : decide ((a : Int) < (s : Int)) = false := decide_eq_false (by omega)
            have g' : decide (a < s) = false := decide_eq_false (by omega)
            have hw : IntKind.i64.wrap (x - u) = x - u := IntWalk.i64_in _ (by omega)
            clear HF hx hu HFR hz hf
            go_quiet (fail)
            go_wp2_with fail
            go_meet
            exact ⟨rfl, below_drewN HB.out _⟩
        case rest =>
          obtain ⟨rfl, hb⟩ := hcut
          have HB2 := Lib.hid hb
          clear hb HB
          go_wp2_with fail
          go_roundw
          case rel => exact ⟨k + 1, HLK.out, by go_num, HB2.out⟩
          case measure => have := HLK.out; simp [intOf]; omega
      · obtain rfl : k = n := by omega
        clear hlt
        go_wp2_with fail
        refine (AW.out _).mono ?_
        rintro e w3 ⟨rfl, h3⟩
        have H3 := Lib.hid h3
        clear h3
        go_wp2_with fail
        go_ret
        have hb := HB.out.trans (H3.out.mono HB.out.size)
        exact ⟨rfl, HW2.out.trans (hb.mono HW2.out.size)⟩
end Go.Proofs.Ytncbieaobadekaa
