/- The document's Order; package rank's Place and Rises. -/
import Derived.Test.YtncbieaobadekaaRankPlace
namespace Go.Proofs.Ytncbieaobadekaa
open Go.ChangeShapes Go.WideShapes Go.ChangeAt Go.RowKit
theorem RowF.drewN {w : World} {g n : Nat} {f : Nat → Int} (h : RowF w g n f) (q : Nat) : RowF (w.drewN q) g n f := h
theorem RowF.ints {w : World} {g n : Nat} {f : Nat → Int} (h : RowF w g n f) : IntsAt w (some ⟨g, 0, none⟩) n f := fun _ => ⟨g, 0, rfl, lt_of_block h, fun i hi => by rw [Nat.zero_add]; exact h.cell i hi⟩
theorem Below.drewN {B : Nat} {w w' : World} (h : Below B w w') (q : Nat) : Below B w (w'.drewN q) := ⟨h.os, h.tape, h.output, h.size, h.block⟩
/-- A row of numbers that tells each one's place, or who is there. -/
def Gives (n : Nat) (P : (Nat → Int) → Prop) (w : World) (e : Ending) (w' : World) : Prop :=
  Below w.heap.size w w' ∧ ∃ (g : Nat) (z : Nat → Int), w.heap.size ≤ g ∧ e = .returned (.slice (some ⟨g, 0, none⟩) n n) ∧ P z ∧ IntsAt w' (some ⟨g, 0, none⟩) n z
def AtPlaces (K : Nat → Key) (n : Nat) (z : Nat → Int) : Prop := ∀ j, j < n → z (placeL (ordLt K) n j) = j
set_option maxHeartbeats 1000000 in
theorem reforder_any (K : Nat → Key) (n cap : Nat) (ao : Option Addr) (hn : n ≤ 1000000) (w : World) (h : KeysAt w ao n K) :
    Calls Try.prog 43 #[.slice ao n cap] w (Gives n (AtPlaces K n) w) := by
  have n2 : (n : Int) ≤ 1000000 := by omega
  have mk := makeN n hn
  obtain ⟨F, hF⟩ := ordF_exists (ordLt_n K n)
  have HF := Lib.hid hF
  have HP : Hid (∀ wr, Below w.heap.size w wr → ∀ k, k < n → Calls Try.prog 44 #[.slice ao n cap, .int .i64 k] wr (RetQ (.int .i64 (placeL (ordLt K) n k : Nat)) wr)) := fun wr hb k hk => refplace_any K n cap k ao hn hk wr (h.below hb)
  clear h hn hF
  go_enter Try.func43, Try.ntmps43
  go_wp2_with fail
  clear mk
  go_loopw [4] (fun iv wr => ∃ k : Nat, k ≤ n ∧ iv = .int .i64 (k : Nat) ∧ Below w.heap.size w wr ∧ ∃ R, RowF wr w.heap.size n R ∧ ∀ j, j < k → R (placeL (ordLt K) n j) = j) (fun iv _ => n - (intOf iv).toNat)
  case atStart => exact ⟨0, Nat.zero_le _, rfl, (Below.refl _ _).alloc (Nat.le_refl _) _, _, RowF.made w n, fun j hj => absurd hj (Nat.not_lt_zero _)⟩
  case round =>
    obtain ⟨k, hk, rfl, hbel, R, hrow, hR⟩ := hrel
    have hk2 : (k : Int) ≤ n := by omega
    have HBel := Lib.hid hbel
    have HW := Lib.hid hrow
    have HR := Lib.hid hR
    clear hbel hR
    by_cases hlt : k < n
    · have hlt2 : (k : Int) < n := by omega
      have HC := Lib.hid (HP.out wr HBel.out k hlt)
      obtain ⟨p, hp⟩ : ∃ p, p = placeL (ordLt K) n k := ⟨_, rfl⟩
      have hpn : p < n := by rw [hp]; exact (HF.out.at_ k hlt).1
      have hpn2 : (p : Int) < n := by omega
      have HPE := Lib.hid hp
      have HL := Lib.hid hlt
      rw [← hp] at HC
      clear hp hlt hrow
      go_wp2_with fail
      refine HC.out.mono ?_
      rintro e w1 ⟨rfl, q, rfl⟩
      have HW1 : Hid (RowF (wr.drewN q) w.heap.size n R) := HW.out
      have HB1 : Hid (Below w.heap.size w (wr.drewN q)) := Below.drewN HBel.out q
      generalize wr.drewN q = w1 at *
      have c1 := HW1.out.cell p hpn
      have e1 := HW1.out.free p
      have HS := Lib.hid (HW1.out.store p (k : Int))
      clear hpn
      go_wp2
      go_roundw
      case rel =>
        refine ⟨k + 1, HL.out, by go_num, HB1.out.setCell (Nat.le_refl _) _, _, HS.out, fun j hj => ?_⟩
        unfold put
        by_cases hjk : j = k
        · subst hjk
          rw [if_pos HPE.out.symm]
        · rw [if_neg (fun e => hjk (HF.out.inj (by have := HL.out; omega) HL.out (by rw [e, HPE.out])))]
          exact HR.out j (by omega)
      case measure => have := HL.out; simp [intOf]; omega
    · obtain rfl : k = n := by omega
      clear hrow hlt
      go_wp2
      go_ret
      exact ⟨HBel.out, w.heap.size, R, Nat.le_refl _, rfl, HR.out, HW.out.ints⟩
def ArePlaces (K : Nat → Key) (n : Nat) (z : Nat → Int) : Prop := ∀ i, i < n → z i = (placeL (ordLt K) n i : Nat)
set_option maxHeartbeats 1000000 in
theorem place_any (K : Nat → Key) (n cap : Nat) (ao : Option Addr) (hn : n ≤ 1000000) (w : World) (h : KeysAt w ao n K) :
    Calls Try.prog 41 #[.slice ao n cap] w (Gives n (ArePlaces K n) w) := by
  have n2 : (n : Int) ≤ 1000000 := by omega
  have mk := makeN n hn
  have HO : Hid (∀ wr, Below w.heap.size w wr → Calls Try.prog 40 #[.slice ao n cap] wr (OrdersK K n wr)) := fun wr hb => order_any K n cap ao hn wr (h.below hb)
  clear h hn
  go_enter Try.func41, Try.ntmps41
  go_wp2_with fail
  clear mk
  have HB0 : Hid (Below w.heap.size w (w.alloc (Obj.cells (madeCells #[Value.int IntKind.i64 0] n) 3))) := (Below.refl _ _).alloc (Nat.le_refl _) _
  have HR0 := Lib.hid (RowF.made w n)
  have hs0 : (w.alloc (Obj.cells (madeCells #[Value.int IntKind.i64 0] n) 3)).heap.size = w.heap.size + 1 := by simp
  have HS0 := Lib.hid hs0
  clear hs0
  refine (HO.out _ HB0.out).mono ?_
  rintro e w1 ⟨h1, g, f, hg, rfl, hf, hi⟩
  have HB1 : Hid (Below w.heap.size w w1) := HB0.out.trans (h1.mono HB0.out.size)
  have HR1 := Lib.hid (HR0.out.gr h1)
  have HG : Hid (w.heap.size < g) := by have := HS0.out; show _ < _; omega
  have HFF := Lib.hid hf
  have HC : Hid (∀ i, i < n → w1.cell? ⟨g, i, none⟩ = some (.int .i64 (f i : Nat))) := fun i hi2 => by
    obtain ⟨b, off, e1, hlt, hc⟩ := hi (by omega)
    obtain ⟨rfl, rfl⟩ : g = b ∧ 0 = off := by injection e1 with e1; injection e1 with a1 a2; exact ⟨a1, a2⟩
    have := hc i hi2
    rwa [Nat.zero_add] at this
  clear h1 hg hf hi
  go_wp2_with fail
  go_loopw [12] (fun iv wr => ∃ k : Nat, k ≤ n ∧ iv = .int .i64 (k : Nat) ∧ Below w.heap.size w wr ∧ (∀ i, i < n → wr.cell? ⟨g, i, none⟩ = some (.int .i64 (f i : Nat))) ∧ ∃ R, RowF wr w.heap.size n R ∧ ∀ t, t < k → R (f t) = t) (fun iv _ => n - (intOf iv).toNat)
  case atStart => exact ⟨0, Nat.zero_le _, rfl, HB1.out, HC.out, _, HR1.out, fun j hj => absurd hj (Nat.not_lt_zero _)⟩
  case round =>
    clear HC
    obtain ⟨k, hk, rfl, hbel, hc, R, hrow, hR⟩ := hrel
    have hk2 : (k : Int) ≤ n := by omega
    have HBel := Lib.hid hbel
    have HW := Lib.hid hrow
    have HR := Lib.hid hR
    have HC := Lib.hid hc
    clear hbel hR hc
    by_cases hlt : k < n
    · have hlt2 : (k : Int) < n := by omega
      obtain ⟨hfn, hfp⟩ := HFF.out.of_ k hlt
      have c0 := HC.out k hlt
      obtain ⟨p, hp⟩ : ∃ p, p = f k := ⟨_, rfl⟩
      have HPE := Lib.hid hp
      rw [← hp] at hfn c0
      have hpn2 : (p : Int) < n := by omega
      have c1 := hrow.cell p hfn
      have e1 := hrow.free p
      have HS := Lib.hid (hrow.store p (k : Int))
      have HL := Lib.hid hlt
      clear hp hfn hfp hlt hrow
      go_wp2
      go_roundw
      case rel =>
        refine ⟨k + 1, HL.out, by go_num, HBel.out.setCell (Nat.le_refl _) _, fun i hi => ?_, _, HS.out, fun t ht => ?_⟩
        · rw [World.cell?_setCell_other _ _ _ _ (fun e => by have := HG.out; injection e with e1; omega)]
          exact HC.out i hi
        · unfold put
          by_cases htk : t = k
          · subst htk
            rw [if_pos HPE.out.symm]
          · rw [if_neg (fun e => htk (by
              have hL := HL.out
              have a1 := (HFF.out.of_ t (by omega)).2
              have a2 := (HFF.out.of_ k hL).2
              rw [e, HPE.out] at a1
              omega))]
            exact HR.out t (by omega)
      case measure => have := HL.out; simp [intOf]; omega
    · obtain rfl : k = n := by omega
      clear hrow hlt
      go_wp2
      go_ret
      refine ⟨HBel.out, w.heap.size, R, Nat.le_refl _, rfl, fun i hi => ?_, HW.out.ints⟩
      obtain ⟨a1, a2⟩ := HFF.out.at_ i hi
      have := HR.out _ a1
      rwa [a2] at this
/-- Is the step from a key to the next one right? -/
def stepOk (s : Bool) (c : Int) : Bool := decide (c ≤ 0) && (!s || decide (c < 0))
/-- Do the first keys rise? -/
def risesN (K : Nat → Key) (s : Bool) : Nat → Bool
  | 0 => true
  | 1 => true
  | k + 2 => risesN K s (k + 1) && stepOk s (cmpK (K k) (K (k + 1)))
theorem risesN_false (K : Nat → Key) (s : Bool) (k : Nat) (h : risesN K s k = false) : ∀ d, risesN K s (k + d) = false
  | 0 => h
  | d + 1 => by
    have := risesN_false K s k h d
    rcases hkd : k + d with _ | m
    · rw [hkd] at this
      cases this
    · show risesN K s (k + d + 1) = false
      rw [hkd, risesN, ← hkd, this, Bool.false_and]
theorem risesN_at {K : Nat → Key} {s : Bool} {n : Nat} (h : risesN K s n = true) (i : Nat) (hi : i + 1 < n) : stepOk s (cmpK (K i) (K (i + 1))) = true := by
  cases hh : stepOk s (cmpK (K i) (K (i + 1)))
  · have h2 : risesN K s (i + 2) = false := by rw [risesN, hh, Bool.and_false]
    have := risesN_false K s (i + 2) h2 (n - (i + 2))
    rw [show i + 2 + (n - (i + 2)) = n by omega, h] at this
    cases this
  · rfl
theorem risesN_all {K : Nat → Key} {s : Bool} : ∀ n, (∀ i, i + 1 < n → stepOk s (cmpK (K i) (K (i + 1))) = true) → risesN K s n = true
  | 0, _ => rfl
  | 1, _ => rfl
  | k + 2, h => by rw [risesN, risesN_all (k + 1) (fun i hi => h i (by omega)), h k (by omega)]; rfl
set_option maxHeartbeats 2000000 in
theorem rises_any (K : Nat → Key) (n cap : Nat) (s : Bool) (ao : Option Addr) (hn : n ≤ 1000000) (w : World) (h : KeysAt w ao n K) :
    Calls Try.prog 45 #[.slice ao n cap, .bool s] w (RetQ (.bool (risesN K s n)) w) := by
  have n2 : (n : Int) ≤ 1000000 := by omega
  have H := Lib.hid h
  have HP : Hid (∀ q i j, i < n → j < n → Calls Try.prog 37 #[(K i).val, (K j).val] (w.drewN q) (RetS (.int .i64 (cmpK (K i) (K j))) (w.drewN q))) := fun q i j hi hj => by
    have := rcmp_any (K i).z (K j).z (K i).n (K i).cap (K j).n (K j).cap (K i).ao (K j).ao (h.1 i hi).1 (h.1 j hj).1 (w.drewN q) (h.1 i hi).2 (h.1 j hj).2
    rwa [cmpK_Z] at this
  obtain ⟨r, hr⟩ : ∃ r, r = risesN K s n := ⟨_, rfl⟩
  have HR := Lib.hid hr
  rw [← hr]
  clear h hn hr
  go_enter Try.func45, Try.ntmps45
  go_wp2_with fail
  go_loopw [5] (fun iv wr => ∃ j : Nat, (j + 1 ≤ n ∨ j = 0) ∧ iv = .int .i64 (j + 1 : Nat) ∧ (∃ q, wr = w.drewN q) ∧ risesN K s (j + 1) = true) (fun iv _ => n + 1 - (intOf iv).toNat)
  case atStart => exact ⟨0, Or.inr rfl, rfl, ⟨0, rfl⟩, rfl⟩
  case round =>
    obtain ⟨j, hj, rfl, hq, hri⟩ := hrel
    have HQ := Lib.hid hq
    have HRI := Lib.hid hri
    have hj2 : (j : Int) ≤ 1000000 := by omega
    clear hri
    by_cases hlt : j + 1 < n
    · obtain ⟨b, off, rfl, hb, hc⟩ := H.out.2 (by omega)
      have c1 : wr.cell? ⟨b, off + j, none⟩ = some (K j).val := by
        obtain ⟨q, rfl⟩ := hq
        exact hc j (by omega)
      have c2 : wr.cell? ⟨b, off + (j + 1), none⟩ = some (K (j + 1)).val := by
        obtain ⟨q, rfl⟩ := hq
        exact hc (j + 1) hlt
      have HCC : Hid (∀ q : Nat, Calls Try.prog 37 #[(K j).val, (K (j + 1)).val] (wr.drewN q) (fun e w' => e = .returned (.int .i64 (cmpK (K j) (K (j + 1)))) ∧ ∃ k, w' = (wr.drewN q).drewN k)) := fun q => by
        obtain ⟨q0, rfl⟩ := hq
        rw [World.drewN_drewN]
        exact (HP.out _ j (j + 1) (by omega) hlt).mono fun e w' h => ⟨h.1, 0, h.2 ▸ rfl⟩
      have hlt2 : ((j : Nat) : Int) + 1 < n := by omega
      have hlt3 : (j : Int) < n := by omega
      have HL := Lib.hid hlt
      have hstep : risesN K s (j + 2) = (risesN K s (j + 1) && stepOk s (cmpK (K j) (K (j + 1)))) := rfl
      rw [HRI.out, Bool.true_and] at hstep
      obtain ⟨c, hcc⟩ : ∃ c, c = cmpK (K j) (K (j + 1)) := ⟨_, rfl⟩
      rw [← hcc] at HCC hstep
      have HST := Lib.hid hstep
      have HN : Hid (stepOk s c = false → r = false) := fun hf => by
        rw [HR.out, show n = j + 2 + (n - (j + 2)) by omega]
        exact risesN_false K s (j + 2) (by rw [HST.out]; exact hf) _
      clear hq hlt hcc hc hb hstep hj
      generalize (K j).val = u at *
      generalize (K (j + 1)).val = v at *
      have i1 : ((j : Int) + 1 - 1) = (j : Int) := by omega
      by_cases hz : 0 < c
      · have d1 : decide (0 < c) = true := decide_eq_true hz
        have HE : Hid (r = false) := HN.out (by unfold stepOk; rw [decide_eq_false (by omega), Bool.false_and])
        clear hz
        go_wp2_with fail
        go_quiet ((go_at_call 37; exact Calls.quiet_of (HCC.out _)))
        go_wp2
        go_ret
        exact ⟨by rw [HE.out]; rfl, drew_two HQ.out⟩
      · have d1 : decide (0 < c) = false := decide_eq_false hz
        cases s
        · have HE : Hid (risesN K false (j + 1 + 1) = true) := by
            show _ = _
            rw [HST.out]; unfold stepOk; rw [decide_eq_true (by omega)]; rfl
          clear hz
          go_wp2_with fail
          go_quiet ((go_at_call 37; exact Calls.quiet_of (HCC.out _)))
          go_wp2
          go_roundw
          case rel => exact ⟨j + 1, Or.inl HL.out, by go_num, drew_two HQ.out, HE.out⟩
          case measure => have := HL.out; simp [intOf]; omega
        · by_cases h0 : c = 0
          · have HE : Hid (r = false) := HN.out (by unfold stepOk; rw [decide_eq_false (show ¬ c < 0 by omega)]; simp)
            subst h0
            clear hz
            go_wp2_with fail
            go_quiet ((go_at_call 37; exact Calls.quiet_of (HCC.out _)))
            go_wp2
            go_ret
            exact ⟨by rw [HE.out]; rfl, drew_two HQ.out⟩
          · have d2 : (c == 0) = false := by rw [beq_eq_false_iff_ne]; exact h0
            have HE : Hid (risesN K true (j + 1 + 1) = true) := by
              show _ = _
              rw [HST.out]; unfold stepOk; rw [decide_eq_true (show c ≤ 0 by omega), decide_eq_true (show c < 0 by omega)]; rfl
            clear hz h0
            go_wp2_with fail
            go_quiet ((go_at_call 37; exact Calls.quiet_of (HCC.out _)))
            go_wp2
            go_roundw
            case rel => exact ⟨j + 1, Or.inl HL.out, by go_num, drew_two HQ.out, HE.out⟩
            case measure => have := HL.out; simp [intOf]; omega
    · have d1 : decide ((j : Int) + 1 < n) = false := decide_eq_false (by omega)
      have d2 : decide (j + 1 < n) = false := decide_eq_false hlt
      have HE : Hid (r = true) := by
        show _ = _
        rw [HR.out]
        rcases hj with hj | hj
        · rw [show n = j + 1 by omega]; exact HRI.out
        · subst hj
          rcases (show n = 0 ∨ n = 1 by omega) with rfl | rfl
          · rfl
          · rfl
      clear hq hlt hj
      go_wp2
      go_ret
      exact ⟨by rw [HE.out]; rfl, HQ.out⟩
end Go.Proofs.Ytncbieaobadekaa
