/- The law RankOrders answers true. -/
import Derived.Test.YtncbieaobadekaaRankPlace2
import Derived.Test.YtncbieaobadekaaOwns
namespace Go.Proofs.Ytncbieaobadekaa
open Go.ChangeShapes Go.WideShapes Go.ChangeAt Go.RowKit
theorem infoK : (Try.prog.info? 22).map (fun i => (i.zero, i.size, i.bytes)) = some (some (.slice none 0 0), 1, 24) := by kernel_rfl
theorem place_mono {lt : Nat → Nat → Bool} {m : Nat} (h : LtN lt m) {x y : Nat} (e : lt x y = true) : ∀ n, placeL lt n x + (if x < n then 1 else 0) ≤ placeL lt n y
  | 0 => by simp [placeL]
  | n + 1 => by
    have ih := place_mono h e n
    rw [placeL_succ, placeL_succ]
    by_cases hx : n = x
    · subst hx
      rw [h.irrefl, e]
      rw [if_neg (Nat.lt_irrefl _)] at ih
      simp
      omega
    · have h1 : (if lt n x = true then 1 else 0) ≤ (if lt n y = true then 1 else 0 : Nat) := by
        by_cases hh : lt n x = true
        · rw [if_pos hh, if_pos (h.trans _ _ _ hh e)]; exact Nat.le_refl _
        · rw [if_neg hh]; exact Nat.zero_le _
      by_cases hxn : x < n
      · rw [if_pos hxn] at ih
        rw [if_pos (show x < n + 1 by omega)]
        omega
      · rw [if_neg hxn] at ih
        rw [if_neg (show ¬ x < n + 1 by omega)]
        omega
theorem ordF_rises {K : Nat → Key} {n : Nat} {f : Nat → Nat} (h : OrdF (ordLt K) n f) (i : Nat) (hi : i + 1 < n) : cmpK (K (f i)) (K (f (i + 1))) ≤ 0 := by
  obtain ⟨a1, a2⟩ := h.of_ i (by omega)
  obtain ⟨b1, b2⟩ := h.of_ (i + 1) hi
  have L := ordLt_n K n
  rcases L.total _ _ a1 b1 (fun e => by rw [e, b2] at a2; omega) with e | e
  · rcases (ordLt_iff K _ _).1 e with e | e <;> omega
  · have := place_mono L e n
    rw [a2, b2, if_pos b1] at this
    omega
theorem risesN_sorted {K : Nat → Key} {n : Nat} {f : Nat → Nat} (h : OrdF (ordLt K) n f) : risesN (fun t => K (f t)) false n = true :=
  risesN_all n fun i hi => by
    have := ordF_rises h i hi
    unfold stepOk
    rw [decide_eq_true this]
    rfl
theorem order_is {K : Nat → Key} {n : Nat} {f : Nat → Nat} {z : Nat → Int} (h : OrdF (ordLt K) n f) (hz : AtPlaces K n z) (t : Nat) (ht : t < n) : ((f t : Nat) : Int) = z t := by
  obtain ⟨h1, h2⟩ := h.of_ t ht
  have := hz (f t) h1
  rw [h2] at this
  exact this.symm
set_option maxHeartbeats 1000000 in
theorem orders_long (K : Nat → Key) (n cap : Nat) (ao : Option Addr) (hn : n ≤ 9223372036854775807) (w : World) (h : RawKeys w ao n K) (hl : ¬ (n ≤ 30 ∧ ∀ i, i < n → (K i).n ≤ 6)) :
    Calls Try.prog 10 #[.slice ao n cap] w (Ret (.bool true) w) := by
  have HX := Lib.hid (awake_any w)
  have HF := Lib.hid (few_any K n cap ao 30 (by decide) hn w h)
  have HL := Lib.hid hl
  clear h hl hn
  go_enter Try.func10, Try.ntmps10
  go_wp2_with fail
  refine HF.out.mono ?_
  rintro e w1 ⟨rfl, b, rfl, hb⟩
  obtain rfl : b = false := by
    cases b
    · rfl
    · exact absurd (hb.1 rfl) HL.out
  clear hb
  go_wp2_with fail
  refine HX.out.mono ?_
  rintro e w2 ⟨rfl, h1⟩
  go_wp2
  go_ret
  exact ⟨rfl, h1⟩
set_option maxRecDepth 100000 in
set_option maxHeartbeats 8000000 in
theorem orders_short (K : Nat → Key) (n cap : Nat) (ao : Option Addr) (hn : n ≤ 30) (h6 : ∀ i, i < n → (K i).n ≤ 6) (w : World) (hraw : RawKeys w ao n K) :
    Calls Try.prog 10 #[.slice ao n cap] w (Ret (.bool true) w) := by
  have h : KeysAt w ao n K := hraw.keys fun i hi => by have := h6 i hi; omega
  have HKEYS : Hid (∀ W, Below w.heap.size w W → KeysAt W ao n K) := fun W hb => h.below hb
  have HX := Lib.hid (fun W => awake_any W)
  have HF := Lib.hid (few_any K n cap ao 30 (by decide) (by omega) w hraw)
  have HFT : Hid (n ≤ 30 ∧ ∀ i, i < n → (K i).n ≤ 6) := ⟨hn, h6⟩
  have HO := Lib.hid (fun W hk => order_any K n cap ao (by omega) W hk)
  have HP := Lib.hid (fun W hk => place_any K n cap ao (by omega) W hk)
  have HRO := Lib.hid (fun W hk => reforder_any K n cap ao (by omega) W hk)
  have HS := Lib.hid (fun z y bo co (W : World) h1 h2 => rsame_any z y n n n n bo co (by omega) (by omega) W h1 h2)
  have HRP : Hid (∀ W k, k < n → KeysAt W ao n K → Calls Try.prog 44 #[.slice ao n cap, .int .i64 (k : Nat)] W (RetQ (.int .i64 (placeL (ordLt K) n k : Nat)) W)) := fun W k hk hK => refplace_any K n cap k ao (by omega) hk W hK
  have HCM : Hid (∀ W i j, i < n → j < n → KeysAt W ao n K → Calls Try.prog 38 #[(K i).val, (K j).val] W (RetQ (.int .i64 (cmpK (K i) (K j))) W)) := fun W i j hi hj hK => by
    have := refcmp_any (K i).z (K j).z (K i).n (K i).cap (K j).n (K j).cap (K i).ao (K j).ao (hK.1 i hi).1 (hK.1 j hj).1 W (hK.1 i hi).2 (hK.1 j hj).2
    rwa [cmpK_Z] at this
  have HRI := Lib.hid (fun K' cap' ao' s W hk => rises_any K' n cap' s ao' (by omega) W hk)
  obtain ⟨i0, hinf, hz0, hz1, hz2⟩ := info_parts infoK
  have n2 : (n : Int) ≤ 30 := by omega
  have nn : ((n : Int) != (n : Int)) = false := by simp
  clear h hraw h6 hn
  go_enter Try.func10, Try.ntmps10
  go_wp2_with fail
  refine HF.out.mono ?_
  rintro e w1 ⟨rfl, b, rfl, hb⟩
  obtain rfl : b = true := hb.2 HFT.out
  clear hb
  go_wp2_with fail
  refine (HO.out _ (HKEYS.out _ (Below.refl _ _))).mono ?_
  rintro e w1 ⟨h1, g, f, hg, rfl, hf, hi⟩
  have H1 := Lib.hid h1
  have HFF := Lib.hid hf
  have HI1 := Lib.hid hi
  clear h1 hg hf hi
  go_wp2_with fail
  refine (HP.out _ (HKEYS.out _ H1.out)).mono ?_
  rintro e w2 ⟨h2, g2, z2, hg2, rfl, hz, hi⟩
  have H2 : Hid (Below w.heap.size w w2) := H1.out.trans (h2.mono H1.out.size)
  have HI1' := Lib.hid (HI1.out.below h2)
  have HZ2 := Lib.hid hz
  have HI2 := Lib.hid hi
  clear h2 hg2 hz hi HI1
  go_wp2_with fail
  refine (HRO.out _ (HKEYS.out _ H2.out)).mono ?_
  rintro e w3 ⟨h3, g3, z3, hg3, rfl, hz, hi⟩
  have H3 : Hid (Below w.heap.size w w3) := H2.out.trans (h3.mono H2.out.size)
  have HI13 := Lib.hid (HI1'.out.below h3)
  have HI23 := Lib.hid (HI2.out.below h3)
  have HZ3 := Lib.hid hz
  have HI33 := Lib.hid hi
  clear h3 hg3 hz hi HI1' HI2
  go_wp2_with fail
  refine (HS.out _ _ _ _ _ HI13.out HI33.out).mono ?_
  rintro e w4 ⟨⟨q4, rfl⟩, b, rfl, hb⟩
  obtain rfl : b = true := hb.2 ⟨(by first | trivial | rfl), fun t ht => order_is HFF.out HZ3.out t ht⟩
  have H4 : Hid (Below w.heap.size w (w3.drewN q4)) := Below.drewN H3.out q4
  have HI14 : Hid (IntsAt (w3.drewN q4) (some ⟨g, 0, none⟩) n (fun i => (f i : Nat))) := HI13.out
  have HI24 : Hid (IntsAt (w3.drewN q4) (some ⟨g2, 0, none⟩) n z2) := HI23.out
  clear hb HI13 HI23 HI33 HZ3
  generalize w3.drewN q4 = w4 at *
  have HC1 : Hid (∀ wr, Below w4.heap.size w4 wr → ∀ i, i < n → wr.cell? ⟨g, i, none⟩ = some (.int .i64 (f i : Nat))) := fun wr hb i hi => by
    obtain ⟨b, off, e1, hlt, hc⟩ := (HI14.out.below hb) (by omega)
    obtain ⟨rfl, rfl⟩ : g = b ∧ 0 = off := by injection e1 with e1; injection e1 with a1 a2; exact ⟨a1, a2⟩
    have := hc i hi
    rwa [Nat.zero_add] at this
  have HC2 : Hid (∀ wr, Below w4.heap.size w4 wr → ∀ i, i < n → wr.cell? ⟨g2, i, none⟩ = some (.int .i64 (placeL (ordLt K) n i : Nat))) := fun wr hb i hi => by
    obtain ⟨b, off, e1, hlt, hc⟩ := (HI24.out.below hb) (by omega)
    obtain ⟨rfl, rfl⟩ : g2 = b ∧ 0 = off := by injection e1 with e1; injection e1 with a1 a2; exact ⟨a1, a2⟩
    have := hc i hi
    rwa [Nat.zero_add, HZ2.out i hi] at this
  have HKW : Hid (∀ wr, Below w4.heap.size w4 wr → KeysAt wr ao n K) := fun wr hb => HKEYS.out wr (H4.out.trans (hb.mono H4.out.size))
  clear HI14 HI24 HZ2 HKEYS HO HP HRO HS HF
  go_wp2_with fail
  go_loopw [5, 6, 7, 8] (fun sv rv tv iv wr => ∃ k : Nat, k ≤ n ∧ iv = .int .i64 (k : Nat) ∧ rv = .bool (risesN K false k) ∧ tv = .bool (risesN K true k) ∧ OwnsV wr w4.heap.size 22 sv k (fun t => (K (f t)).val) ∧ Below w4.heap.size w4 wr) (fun _ _ _ iv _ => n - (intOf iv).toNat)
  case atStart => exact ⟨0, Nat.zero_le _, rfl, rfl, rfl, OwnsV.nil _ _ _ _, Below.refl _ _⟩
  case round =>
    obtain ⟨k, hk, rfl, rfl, rfl, hown, hbel⟩ := hrel
    have hk2 : (k : Int) ≤ n := by omega
    by_cases hlt : k < n
    · have hlt2 : (k : Int) < n := by omega
      have HL := Lib.hid hlt
      have HPK : Hid (∀ q : Nat, Calls Try.prog 44 #[.slice ao n cap, .int .i64 (k : Nat)] (wr.drewN q) (fun e w' => e = .returned (.int .i64 (placeL (ordLt K) n k : Nat)) ∧ ∃ j, w' = (wr.drewN q).drewN j)) := fun q => HRP.out _ k hlt (HKW.out _ (Below.drewN hbel q))
      have c2 := HC2.out wr hbel k hlt
      have HOW := Lib.hid hown
      have HBE := Lib.hid hbel
      obtain ⟨p, hp⟩ : ∃ p, p = placeL (ordLt K) n k := ⟨_, rfl⟩
      rw [← hp] at HPK c2
      have pp : ((p : Int) != (p : Int)) = false := by simp
      obtain ⟨b1, hb1⟩ : ∃ b1, b1 = risesN K false k := ⟨_, rfl⟩
      obtain ⟨b2, hb2⟩ : ∃ b2, b2 = risesN K true k := ⟨_, rfl⟩
      have HB1 := Lib.hid hb1
      have HB2 := Lib.hid hb2
      rw [← hb1, ← hb2]
      clear hp hlt hown hbel hb1 hb2
      go_wp2_with fail
      go_quiet ((go_at_call 44; exact Calls.quiet_of (HPK.out _)))
      have hown : OwnsV (wr.drewN nq) w4.heap.size 22 _ k (fun t => (K (f t)).val) := OwnsV.drewN HOW.out nq
      have hbel : Below w4.heap.size w4 (wr.drewN nq) := Below.drewN HBE.out nq
      clear c2 HPK HOW HBE
      generalize wr.drewN nq = w5 at *
      have c1 := HC1.out w5 hbel k HL.out
      have hfk := (HFF.out.of_ k HL.out).1
      obtain ⟨bk, ok, rfl, hbk, hck⟩ := (HKW.out w5 hbel).2 (by have := HL.out; omega)
      have c3 := hck (f k) hfk
      obtain ⟨fk, hfkk⟩ : ∃ fk, fk = f k := ⟨_, rfl⟩
      have HFK := Lib.hid hfkk
      rw [← hfkk] at c1 c3 hfk
      have hfk2 : (fk : Int) < n := by omega
      obtain ⟨ua, un, uc, hu⟩ : ∃ ua un uc, Value.slice ua un uc = (K fk).val := ⟨_, _, _, rfl⟩
      have HU := Lib.hid hu
      rw [← hu] at c3
      clear hck hbk hfkk hu hfk
      go_wp2_with (at_builtin; refine wpList_append_own _ rfl _ _ 61 rfl w4.heap.size 22 i0 (.slice none 0 0) 1 24 Try.underlying61 hinf hz0 hz1 hz2 rfl (by decide) _ _ _ rfl (hown.alloc _) ⟨w5.heap.size, 0, none⟩ 1 1 [.slice ua un uc] rfl rfl ?c1 ?c2 ?c3 ?c4 ?c5 ?_)
      case c1 =>
        intro j' u' hj'
        match j', hj' with
        | 0, hj' => simp at hj'; subst hj'; simp [Addr.add]
      case c2 => intro u' hu'; simp at hu'; subst hu'; rfl
      case c3 => unfold maxLen; omega
      case c4 => omega
      case c5 => have := hbel.size; simp; omega
      intro v' w6 hown' hgrow _
      have hown2 : OwnsV w6 w4.heap.size 22 v' (k + 1) (fun t => (K (f t)).val) := OwnsV.next (by rw [← HFK.out, ← HU.out]; exact hown')
      have hbel2 : Below w4.heap.size w4 w6 := (hbel.alloc hbel.size _).grown hgrow (by have := hbel.size; simp; omega) (fun k' hk' => (hown.lt k' hk').1)
      have HOW2 := Lib.hid hown2
      have HBE2 := Lib.hid hbel2
      clear hown hown' hgrow hbel hown2 hbel2 c1 c3
      rcases k with _ | j
      · go_wp2
        go_roundw
        case rel => exact ⟨1, HL.out, rfl, by rw [HB1.out]; rfl, by rw [HB2.out]; rfl, HOW2.out, HBE2.out⟩
        case measure => have := HL.out; simp [intOf]; omega
      · have hL := HL.out
        obtain ⟨bk2, ok2, e2, hbk2, hck2⟩ := (HKW.out w6 HBE2.out).2 (by omega)
        obtain ⟨rfl, rfl⟩ : bk = bk2 ∧ ok = ok2 := by injection e2 with e2; injection e2 with a1 a2; exact ⟨a1, a2⟩
        have c5 := hck2 j (by omega)
        have c6 := hck2 (j + 1) hL
        have hj3 : (j : Int) + 1 < n := by omega
        have hj4 : (j : Int) < n := by omega
        have HCC : Hid (∀ q : Nat, Calls Try.prog 38 #[(K j).val, (K (j + 1)).val] (w6.drewN q) (fun e w' => e = .returned (.int .i64 (cmpK (K j) (K (j + 1)))) ∧ ∃ i, w' = (w6.drewN q).drewN i)) := fun q => HCM.out _ j (j + 1) (by omega) hL (HKW.out _ (Below.drewN HBE2.out q))
        have HR1 : Hid (risesN K false (j + 1 + 1) = (b1 && stepOk false (cmpK (K j) (K (j + 1))))) := by show _ = _; rw [HB1.out]; rfl
        have HR2 : Hid (risesN K true (j + 1 + 1) = (b2 && stepOk true (cmpK (K j) (K (j + 1))))) := by show _ = _; rw [HB2.out]; rfl
        obtain ⟨c, hcc⟩ : ∃ c, c = cmpK (K j) (K (j + 1)) := ⟨_, rfl⟩
        rw [← hcc] at HCC HR1 HR2
        clear hck2 hbk2 e2 hL hcc HB1 HB2
        generalize (K j).val = x5 at *
        generalize (K (j + 1)).val = x6 at *
        go_wp2_with fail
        go_quiet ((go_at_call 38; exact Calls.quiet_of (HCC.out _)))
        have HOW3 : Hid (OwnsV (w6.drewN nq) w4.heap.size 22 v' (j + 1 + 1) (fun t => (K (f t)).val)) := OwnsV.drewN HOW2.out nq
        have HBE3 : Hid (Below w4.heap.size w4 (w6.drewN nq)) := Below.drewN HBE2.out nq
        clear c5 c6 HCC HOW2 HBE2
        generalize w6.drewN nq = w7 at *
        rcases (show c < 0 ∨ c = 0 ∨ 0 < c by omega) with hc | hc | hc
        · have d1 : decide (c ≤ 0) = true := decide_eq_true (by omega)
          have d2 : decide (c < 0) = true := decide_eq_true hc
          have s1 : stepOk false c = true := by unfold stepOk; rw [d1]; rfl
          have s2 : stepOk true c = true := by unfold stepOk; rw [d1, d2]; rfl
          rw [s1] at HR1
          rw [s2] at HR2
          clear hc s1 s2
          cases b1
          all_goals cases b2
          all_goals
            go_wp2
            go_roundw
            case rel => exact ⟨j + 1 + 1, HL.out, by go_num, by rw [HR1.out]; rfl, by rw [HR2.out]; rfl, HOW3.out, HBE3.out⟩
            case measure => have := HL.out; simp [intOf]; omega
        · subst hc
          have s1 : stepOk false 0 = true := rfl
          have s2 : stepOk true 0 = false := rfl
          rw [s1] at HR1
          rw [s2] at HR2
          clear s1 s2
          cases b1
          all_goals cases b2
          all_goals
            go_wp2
            go_roundw
            case rel => exact ⟨j + 1 + 1, HL.out, by go_num, by rw [HR1.out]; rfl, by rw [HR2.out]; rfl, HOW3.out, HBE3.out⟩
            case measure => have := HL.out; simp [intOf]; omega
        · have d1 : decide (c ≤ 0) = false := decide_eq_false (by omega)
          have d2 : decide (c < 0) = false := decide_eq_false (by omega)
          have s1 : stepOk false c = false := by unfold stepOk; rw [d1]; rfl
          have s2 : stepOk true c = false := by unfold stepOk; rw [d1]; rfl
          rw [s1] at HR1
          rw [s2] at HR2
          clear hc s1 s2
          cases b1
          all_goals cases b2
          all_goals
            go_wp2
            go_roundw
            case rel => exact ⟨j + 1 + 1, HL.out, by go_num, by rw [HR1.out]; rfl, by rw [HR2.out]; rfl, HOW3.out, HBE3.out⟩
            case measure => have := HL.out; simp [intOf]; omega
    · obtain rfl : k = n := by omega
      obtain ⟨ao2, cap2, rfl, hv⟩ := hown.view
      have HV := Lib.hid hv
      have HBE := Lib.hid hbel
      obtain ⟨b1, hb1⟩ : ∃ b1, b1 = risesN K false k := ⟨_, rfl⟩
      obtain ⟨b2, hb2⟩ : ∃ b2, b2 = risesN K true k := ⟨_, rfl⟩
      have HB1 := Lib.hid hb1
      have HB2 := Lib.hid hb2
      rw [← hb1, ← hb2]
      clear hv hown hbel hlt hb1 hb2 hk
      go_wp2_with fail
      refine (HX.out _).mono ?_
      rintro e w5 ⟨rfl, h5⟩
      have HB5 : Hid (Below w4.heap.size w4 w5) := HBE.out.trans (h5.mono HBE.out.size)
      have HK5 : Hid (KeysAt w5 ao2 k (fun t => K (f t))) := by
        have hK := HKW.out w5 HB5.out
        refine ⟨fun i hi => hK.1 _ (HFF.out.of_ i hi).1, fun hp => ?_⟩
        obtain ⟨b, e1, _, hlt, hc⟩ := HV.out hp
        exact ⟨b, 0, e1, Nat.lt_of_lt_of_le hlt h5.size, fun i hi => by rw [Nat.zero_add]; exact (h5.cell (by exact hlt)).trans (hc i hi)⟩
      have HR5 := Lib.hid (HRI.out (fun t => K (f t)) cap2 ao2 false w5 HK5.out)
      rw [risesN_sorted HFF.out] at HR5
      clear h5
      go_wp2_with fail
      refine HR5.out.mono ?_
      rintro e w6 ⟨rfl, q6, rfl⟩
      have HB6 : Hid (Below w4.heap.size w4 (w5.drewN q6)) := Below.drewN HB5.out q6
      generalize w5.drewN q6 = w6 at *
      have HR6 := Lib.hid (HRI.out K cap ao false w6 (HKW.out _ HB6.out))
      rw [← HB1.out] at HR6
      go_wp2_with fail
      refine HR6.out.mono ?_
      rintro e w7 ⟨rfl, q7, rfl⟩
      have HB7 : Hid (Below w4.heap.size w4 (w6.drewN q7)) := Below.drewN HB6.out q7
      generalize w6.drewN q7 = w7 at *
      have HR7 := Lib.hid (HRI.out K cap ao true w7 (HKW.out _ HB7.out))
      rw [← HB2.out] at HR7
      have eb1 : (b1 == b1) = true := by simp
      have eb2 : (b2 == b2) = true := by simp
      go_wp2_with fail
      refine HR7.out.mono ?_
      rintro e w8 ⟨rfl, q8, rfl⟩
      have HB8 : Hid (Below w4.heap.size w4 (w7.drewN q8)) := Below.drewN HB7.out q8
      generalize w7.drewN q8 = w8 at *
      go_wp2
      go_ret
      exact ⟨rfl, H4.out.trans (HB8.out.mono H4.out.size)⟩
end Go.Proofs.Ytncbieaobadekaa
