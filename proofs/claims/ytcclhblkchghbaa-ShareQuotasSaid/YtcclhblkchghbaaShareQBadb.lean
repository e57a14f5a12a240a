/- ShareQuotas: the walk, where the part is badb. -/
import Derived.Test.YtcclhblkchghbaaShareQ
import Derived.IntWalk
namespace Go.Proofs.Ytcclhblkchghbaa
open Go.ChangeShapes Go.WideShapes Go.ChangeAt Go.RowKit
set_option maxRecDepth 100000 in
set_option maxHeartbeats 4000000 in
theorem quotas_badb (x0 x1 x2 : Int) (z y : Nat → Int) (n cap m cap' : Nat) (ao bo : Option Addr) (hn : n ≤ 60) (hm : m ≤ 60) (hz : ∀ i, i < n → -9223372036854775808 ≤ z i ∧ z i ≤ 9223372036854775807) (hx : ¬ x0 < 0) (hx1 : x1 < 0) (w : World) (h1 : IntsAt w ao n z) (h2 : IntsAt w bo m y) :
    Calls Try.prog 7 #[.agg #[.int .i64 x0, .int .i64 x1, .int .i64 x2], .slice ao n cap, .slice bo m cap'] w (Ret (.bool true) w) := by
  have AW := Lib.hid (fun (w : World) => awake_any w)
  have n1 : (n : Int) ≤ 60 := by omega
  have m1 : (m : Int) ≤ 60 := by omega
  have d1 : decide (60 < (n : Int)) = false := decide_eq_false (by omega)
  have d2 : decide (60 < n) = false := decide_eq_false (by omega)
  have d3 : decide (60 < (m : Int)) = false := decide_eq_false (by omega)
  have d4 : decide (60 < m) = false := decide_eq_false (by omega)
  have H1 := Lib.hid h1
  have H2 := Lib.hid h2
  have HZ := Lib.hid hz
  have HL := Lib.hid (fun (w : World) h1 h2 => lost_q z y n cap m cap' ao bo (by omega) (by omega) hz w h1 h2)
  have HQ := Lib.hid (fun (w : World) => quota_bad x0 x1 x2 (Or.inr (Or.inl hx1)) w)
  have g1 := decide_eq_false hx
  have g2 := decide_eq_true hx1
  clear hx hx1
  clear h1 h2 hz hn hm
  go_enter Try.func7, Try.ntmps7
  go_wp2_with fail
  refine (HQ.out _).mono ?_
  rintro e w1 ⟨rfl, h1⟩
  have HB1 : Hid (Below w.heap.size w w1) := ((Below.refl _ _).alloc (Nat.le_refl _) _).trans (h1.mono (by simp))
  have hb0 : w1.heap[w.heap.size]? = some (Obj.cells #[.int .i64 x0, .int .i64 x1, .int .i64 x2] 33) := by
    rw [h1.block _ (by simp)]
    exact heap_alloc_new _ _
  have k0 : w1.cell? ⟨w.heap.size, 0, none⟩ = some (.int .i64 x0) := by simp [World.cell?, hb0]
  have k1 : w1.cell? ⟨w.heap.size, 1, none⟩ = some (.int .i64 x1) := by simp [World.cell?, hb0]
  have k2 : w1.cell? ⟨w.heap.size, 2, none⟩ = some (.int .i64 x2) := by simp [World.cell?, hb0]
  clear h1 hb0
  go_wp2_with fail
  refine (HL.out _ (H1.out.below HB1.out) (H2.out.below HB1.out)).mono ?_
  rintro e w2 ⟨h2, lo, ln, lc, ev, rfl, hr⟩
  have HB2 : Hid (Below w.heap.size w w2) := HB1.out.trans (h2.mono HB1.out.size)
  have HR := Lib.hid hr
  clear h2 hr k0 k1 k2 g1 g2
  have hln : (ln : Int) ≤ 60 := by rcases HR.out with ⟨_, e, _⟩ | ⟨_, e, _⟩ <;> omega
  obtain ⟨eq, heq⟩ : ∃ b : Bool, b = ((n : Int) == (m : Int)) := ⟨_, rfl⟩
  have HEQ : Hid (eq = true → n = m) := fun h => by rw [heq, beq_iff_eq] at h; omega
  have HNE : Hid (eq = false → ¬ Fits z y n m) := fun h hf => by rw [heq, beq_eq_false_iff_ne] at h; exact h (by have := hf.1; omega)
  have heq2 := heq.symm
  clear heq
  go_wp2_with fail
  go_loopw [14, 15] (fun rv iv wr => ∃ (b : Bool) (k : Nat), k ≤ n ∧ rv = .bool b ∧ iv = .int .i64 (k : Nat) ∧ (∃ q, wr = w2.drewN q) ∧ (b = true → n = m ∧ ∀ i, i < k → 0 ≤ y i ∧ y i ≤ z i) ∧ (b = false → ¬ Fits z y n m)) (fun _ iv _ => n - (intOf iv).toNat)
  case atStart => exact ⟨eq, 0, Nat.zero_le _, rfl, rfl, ⟨0, rfl⟩, fun h => ⟨HEQ.out h, fun i hi => absurd hi (Nat.not_lt_zero i)⟩, HNE.out⟩
  case round =>
    obtain ⟨b, k, hk, rfl, rfl, hq, hyes, hno⟩ := hrel
    have hk2 : (k : Int) ≤ n := by omega
    have HQ := Lib.hid hq
    have HY := Lib.hid hyes
    have HNO := Lib.hid hno
    clear hyes hno heq2
    cases b
    case false =>
      have HBR : Hid (Below w.heap.size w wr) := by
        obtain ⟨q, e⟩ := hq
        rw [e]
        exact below_drewN HB2.out q
      rcases HR.out with ⟨hf, _⟩ | ⟨_, rfl, rfl⟩
      · exact absurd hf (HNO.out rfl)
      clear hq HR hln
      by_cases hlt : k < n
      · go_wp2_with fail
        refine (AW.out _).mono ?_
        rintro e w3 ⟨rfl, h3⟩
        have H3 := Lib.hid h3
        clear h3
        go_wp2_with fail
        go_ret
        exact ⟨rfl, HBR.out.trans (H3.out.mono HBR.out.size)⟩
      · obtain rfl : k = n := by omega
        go_wp2_with fail
        refine (AW.out _).mono ?_
        rintro e w3 ⟨rfl, h3⟩
        have H3 := Lib.hid h3
        clear h3
        go_wp2_with fail
        go_ret
        exact ⟨rfl, HBR.out.trans (H3.out.mono HBR.out.size)⟩
    case true =>
      obtain ⟨hnm, hlo⟩ := HY.out rfl
      have HLO := Lib.hid hlo
      clear hlo
      subst hnm
      by_cases hlt : k < n
      · have hlt2 : (k : Int) < n := by omega
        obtain ⟨bb, off, rfl, hb, hc⟩ := H1.out (by omega)
        obtain ⟨bb', off', rfl, hb', hc'⟩ := H2.out (by omega)
        have hBR : Below w.heap.size w wr := by
          obtain ⟨q, e⟩ := hq
          rw [e]
          exact below_drewN HB2.out q
        have c1 := (hBR.cell (by exact hb)).trans (hc k hlt)
        have c2 := (hBR.cell (by exact hb')).trans (hc' k hlt)
        clear hc hc' hq hBR
        by_cases p1 : 0 ≤ y k
        · have g1 := decide_eq_true p1
          have P1 := Lib.hid p1
          clear p1
          by_cases p2 : y k ≤ z k
          · have g2 := decide_eq_true p2
            have P2 := Lib.hid p2
            clear p2
            obtain ⟨x, hx⟩ : ∃ x, z k = x := ⟨_, rfl⟩
            obtain ⟨u, hu⟩ : ∃ u, y k = u := ⟨_, rfl⟩
            rw [hx] at c1 g2
            rw [hu] at c2 g1 g2
            clear hx hu
            go_wp2_with fail
            go_quiet (fail)
            go_wp2_with fail
            go_roundw
            case rel => exact ⟨true, k + 1, hlt, rfl, by go_num, by
                obtain ⟨q, e⟩ := HQ.out
                exact ⟨q + nq, by rw [e, World.drewN_drewN]⟩, fun _ => ⟨trivial, fun i hi => by
                by_cases hik : i = k
                · rw [hik]; exact ⟨P1.out, P2.out⟩
                · exact HLO.out i (by omega)⟩, fun h => by cases h⟩
            case measure => simp [intOf]; omega
          · have g2 := decide_eq_false p2
            have P2 := Lib.hid p2
            clear p2
            obtain ⟨x, hx⟩ : ∃ x, z k = x := ⟨_, rfl⟩
            obtain ⟨u, hu⟩ : ∃ u, y k = u := ⟨_, rfl⟩
            have HF : Hid (¬ Fits z y n n) := fun hf => absurd (hf.2 k hlt).2 (by have := P2.out; omega)
            rw [hx] at c1 g2
            rw [hu] at c2 g1 g2
            clear hx hu
            go_wp2_with fail
            go_quiet (fail)
            go_wp2_with fail
            go_roundw
            case rel => exact ⟨false, k + 1, hlt, rfl, by go_num, by
                obtain ⟨q, e⟩ := HQ.out
                exact ⟨q + nq, by rw [e, World.drewN_drewN]⟩, fun h => (by cases h), fun _ => HF.out⟩
            case measure => simp [intOf]; omega
        · have g1 := decide_eq_false p1
          have P1 := Lib.hid p1
          have HF : Hid (¬ Fits z y n n) := fun hf => absurd (hf.2 k hlt).1 (by have := P1.out; omega)
          clear p1
          obtain ⟨x, hx⟩ : ∃ x, z k = x := ⟨_, rfl⟩
          obtain ⟨u, hu⟩ : ∃ u, y k = u := ⟨_, rfl⟩
          rw [hx] at c1
          rw [hu] at c2 g1
          clear hx hu
          go_wp2_with fail
          go_quiet (fail)
          go_wp2_with fail
          go_roundw
          case rel => exact ⟨false, k + 1, hlt, rfl, by go_num, by
              obtain ⟨q, e⟩ := HQ.out
              exact ⟨q + nq, by rw [e, World.drewN_drewN]⟩, fun h => (by cases h), fun _ => HF.out⟩
          case measure => simp [intOf]; omega
      · obtain rfl : k = n := by omega
        have HFT : Hid (Fits z y k k) := ⟨rfl, HLO.out⟩
        rcases HR.out with ⟨_, rfl, rfl, hlost⟩ | ⟨hf, _⟩
        case inr => exact absurd HFT.out hf
        obtain ⟨wo, rfl⟩ : ∃ x, x = wr := ⟨_, rfl⟩
        have HLT : Hid (IntsAt wo lo ln (fun i => z i - y i)) := by
          obtain ⟨q, e⟩ := HQ.out
          rw [e]
          exact hlost
        have HBR : Hid (Below w.heap.size w wo) := by
          obtain ⟨q, e⟩ := HQ.out
          rw [e]
          exact below_drewN HB2.out q
        have bn : ((ln : Int) != (ln : Int)) = false := by simp
        clear hlost hq hlt HR
        go_wp2_with fail
        go_loopw [16] (fun iv wr => ∃ (k : Nat), k ≤ ln ∧ iv = .int .i64 (k : Nat) ∧ (∃ q, wr = wo.drewN q)) (fun iv _ => ln - (intOf iv).toNat)
        case atStart => exact ⟨0, Nat.zero_le _, rfl, 0, rfl⟩
        case round =>
          clear hk hk2
          obtain ⟨k, hk, rfl, hq⟩ := hrel
          have hk2 : (k : Int) ≤ ln := by omega
          have HQ := Lib.hid hq
          have HBR' : Hid (Below w.heap.size w wr) := by
            obtain ⟨q, e⟩ := hq
            rw [e]
            exact below_drewN HBR.out q
          by_cases hlt : k < ln
          · have hlt2 : (k : Int) < ln := by omega
            obtain ⟨bb, off, rfl, hb, hc⟩ := H1.out (by omega)
            obtain ⟨bb', off', rfl, hb', hc'⟩ := H2.out (by omega)
            obtain ⟨bl, offl, rfl, hbl, hcl⟩ := HLT.out (by omega)
            have c1 := (HBR'.out.cell (by exact hb)).trans (hc k hlt)
            have c2 := (HBR'.out.cell (by exact hb')).trans (hc' k hlt)
            have c3 : wr.cell? ⟨bl, offl + k, none⟩ = some (.int .i64 (z k - y k)) := by
              obtain ⟨q, e⟩ := hq
              rw [e]
              exact hcl k hlt
            have hz := (HZ.out k hlt).2
            have hf := HFT.out.2 k hlt
            clear hc hc' hcl hq
            obtain ⟨x, hx⟩ : ∃ x, z k = x := ⟨_, rfl⟩
            obtain ⟨u, hu⟩ : ∃ u, y k = u := ⟨_, rfl⟩
            rw [hx] at c1 c3 hf hz
            rw [hu] at c2 c3 hf
            have hw : IntKind.i64.wrap (x - u) = x - u := IntWalk.i64_in _ (by omega)
            have hbb : ((x - u) != (x - u)) = false := by simp
            clear hx hu hf hz
            go_wp2_with fail
            go_quiet (fail)
            go_wp2_with fail
            go_roundw
            case rel => exact ⟨k + 1, hlt, by go_num, by
                obtain ⟨q, e⟩ := HQ.out
                exact ⟨q + nq, by rw [e, World.drewN_drewN]⟩⟩
            case measure => simp [intOf]; omega
          · obtain rfl : k = ln := by omega
            clear hq hlt
            have bk : ((k : Int) == (k : Int)) = true := by simp
            go_wp2_with fail
            refine (AW.out _).mono ?_
            rintro e w3 ⟨rfl, h3⟩
            have H3 := Lib.hid h3
            clear h3
            go_wp2_with fail
            go_ret
            exact ⟨rfl, HBR'.out.trans (H3.out.mono HBR'.out.size)⟩
end Go.Proofs.Ytcclhblkchghbaa
