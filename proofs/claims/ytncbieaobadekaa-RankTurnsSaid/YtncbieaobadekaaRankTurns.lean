/- The law RankTurns answers true. -/
import Derived.Test.YtncbieaobadekaaRankOrders
namespace Go.Proofs.Ytncbieaobadekaa
open Go.ChangeShapes Go.WideShapes Go.ChangeAt Go.RowKit
theorem perm_of_inv {n : Nat} {f g : Nat → Nat} (hf : ∀ i, i < n → f i < n ∧ g (f i) = i) (hg : ∀ i, i < n → g i < n ∧ f (g i) = i) : ((List.range n).map f).Perm (List.range n) := by
  rw [List.perm_ext_iff_of_nodup]
  · intro a
    rw [List.mem_map, List.mem_range]
    constructor
    · rintro ⟨i, hi, rfl⟩
      exact (hf i (List.mem_range.1 hi)).1
    · intro ha
      exact ⟨g a, List.mem_range.2 (hg a ha).1, (hg a ha).2⟩
  · refine List.pairwise_iff_getElem.2 fun i j hi hj hij => ?_
    simp only [List.getElem_map, List.getElem_range]
    intro e
    simp only [List.length_map, List.length_range] at hi hj
    have h1 := (hf i hi).2
    have h2 := (hf j hj).2
    rw [e] at h1
    omega
  · exact List.nodup_range
/-- Turned at k. -/
def rot (n k t : Nat) : Nat := if t + k < n then t + k else t + k - n
theorem rot_lt {n k t : Nat} (ht : t < n) (hk : k ≤ n) : rot n k t < n := by unfold rot; split <;> omega
theorem rot_back {n k t : Nat} (ht : t < n) (hk : k ≤ n) : rot n (n - k) (rot n k t) = t := by
  unfold rot
  by_cases h : t + k < n
  · rw [if_pos h]
    by_cases h2 : t + k + (n - k) < n
    · omega
    · rw [if_neg h2]; omega
  · rw [if_neg h]
    by_cases h2 : t + k - n + (n - k) < n
    · rw [if_pos h2]; omega
    · omega
theorem rot_perm {n k : Nat} (hk : k ≤ n) : ((List.range n).map (rot n k)).Perm (List.range n) :=
  perm_of_inv (g := rot n (n - k)) (fun _ hi => ⟨rot_lt hi hk, rot_back hi hk⟩) (fun i hi => ⟨rot_lt hi (by omega), by
    have := rot_back (k := n - k) hi (by omega)
    rwa [show n - (n - k) = k by omega] at this⟩)
theorem rot_mod {n k t : Nat} (ht : t < n) (hk : k ≤ n) : (t + k) % n = rot n k t := by
  unfold rot
  split
  · exact Nat.mod_eq_of_lt ‹_›
  · rw [Nat.mod_eq_sub_mod (by omega)]
    by_cases h : t + k - n < n
    · exact Nat.mod_eq_of_lt h
    · omega
theorem OrdF.perm {lt : Nat → Nat → Bool} {n : Nat} {f : Nat → Nat} (h : OrdF lt n f) : ((List.range n).map f).Perm (List.range n) :=
  perm_of_inv (g := placeL lt n) h.of_ h.at_
theorem ordF_sorted {K : Nat → Key} {n : Nat} {f : Nat → Nat} (h : OrdF (ordLt K) n f) : ((List.range n).map fun i => (K (f i)).lst).Pairwise (fun a b => cmpL a b ≤ 0) := by
  refine List.pairwise_iff_getElem.2 fun i j hi hj hij => ?_
  simp only [List.length_map, List.length_range] at hi hj
  simp only [List.getElem_map, List.getElem_range]
  obtain ⟨a1, a2⟩ := h.of_ i hi
  obtain ⟨b1, b2⟩ := h.of_ j hj
  have L := ordLt_n K n
  rcases L.total _ _ a1 b1 (fun e => by rw [e, b2] at a2; omega) with e | e
  · rcases (ordLt_iff K _ _).1 e with e | e
    · unfold cmpK at e; omega
    · unfold cmpK at e; omega
  · have := place_mono L e n
    rw [a2, b2, if_pos b1] at this
    omega
/-- In whatever order keys stood, they come to the same. -/
theorem turned_same {K K' : Nat → Key} {n k : Nat} (hk : k ≤ n) (hK : ∀ t, t < n → K' t = K (rot n k t)) {f f' : Nat → Nat} (h : OrdF (ordLt K) n f) (h' : OrdF (ordLt K') n f') (i : Nat) (hi : i < n) : cmpK (K (f i)) (K' (f' i)) = 0 := by
  have p1 : ((List.range n).map fun i => (K (f i)).lst).Perm ((List.range n).map fun i => (K i).lst) := by
    have := h.perm.map (fun i => (K i).lst)
    rwa [List.map_map] at this
  have p2 : ((List.range n).map fun i => (K' (f' i)).lst).Perm ((List.range n).map fun i => (K' i).lst) := by
    have := h'.perm.map (fun i => (K' i).lst)
    rwa [List.map_map] at this
  have p3 : ((List.range n).map fun i => (K' i).lst).Perm ((List.range n).map fun i => (K i).lst) := by
    have := (rot_perm (n := n) hk).map (fun i => (K i).lst)
    rw [List.map_map] at this
    rw [List.map_congr_left (g := (fun i => (K i).lst) ∘ rot n k) fun t ht => by rw [hK t (List.mem_range.1 ht)]; rfl]
    exact this
  have e := List.Perm.eq_of_pairwise (le := fun a b => cmpL a b ≤ 0) (fun a b _ _ h1 h2 => by
    have := cmpL_swap a b
    exact cmpL_eq a b (by omega)) (ordF_sorted h) (ordF_sorted h') (p1.trans (p2.trans p3).symm)
  have e2 := congrArg (fun l => l[i]?) e
  simp only [List.getElem?_map, List.getElem?_range hi, Option.map_some, Option.some.injEq] at e2
  unfold cmpK
  rw [e2]
  exact cmpL_self _
set_option maxHeartbeats 1000000 in
theorem turns_long (K : Nat → Key) (n cap : Nat) (ao : Option Addr) (a : Int) (hn : n ≤ 9223372036854775807) (w : World) (h : RawKeys w ao n K) (hl : ¬ (n ≤ 30 ∧ ∀ i, i < n → (K i).n ≤ 6)) :
    Calls Try.prog 11 #[.slice ao n cap, .int .u8 a] w (Ret (.bool true) w) := by
  have HX := Lib.hid (awake_any w)
  have HF := Lib.hid (few_any K n cap ao 30 (by decide) hn w h)
  have HL := Lib.hid hl
  clear h hl hn
  go_enter Try.func11, Try.ntmps11
  go_wp2_with fail
  refine HF.out.mono ?_
  rintro e w1 ⟨rfl, b, rfl, hb⟩
  obtain rfl : b = false := by
    cases b
    · rfl
    · exact absurd (hb.1 rfl) HL.out
  clear hb
  go_wp2_with fail
  refine HX.out.mono ?_
  rintro e w2 ⟨rfl, h1⟩
  go_wp2
  go_ret
  exact ⟨rfl, h1⟩
set_option maxRecDepth 100000 in
set_option maxHeartbeats 8000000 in
theorem turns_short (K : Nat → Key) (n cap : Nat) (ao : Option Addr) (a : Nat) (ha : (a : Int) ≤ 255) (hn : n ≤ 30) (h6 : ∀ i, i < n → (K i).n ≤ 6) (w : World) (hraw : RawKeys w ao n K) :
    Calls Try.prog 11 #[.slice ao n cap, .int .u8 a] w (Ret (.bool true) w) := by
  have h : KeysAt w ao n K := hraw.keys fun i hi => by have := h6 i hi; omega
  have HKEYS : Hid (∀ W, Below w.heap.size w W → KeysAt W ao n K) := fun W hb => h.below hb
  have HX := Lib.hid (fun W => awake_any W)
  have HF := Lib.hid (few_any K n cap ao 30 (by decide) (by omega) w hraw)
  have HFT : Hid (n ≤ 30 ∧ ∀ i, i < n → (K i).n ≤ 6) := ⟨hn, h6⟩
  have HO := Lib.hid (fun K' cap' ao' W hk => order_any K' n cap' ao' (by omega) W hk)
  have HCM : Hid (∀ W (p q : Key), p.n ≤ 1000000 → q.n ≤ 1000000 → IntsAt W p.ao p.n p.z → IntsAt W q.ao q.n q.z → cmpK p q = 0 → Calls Try.prog 38 #[p.val, q.val] W (RetQ (.int .i64 0) W)) := fun W p q hp hq i1 i2 e => by
    have := refcmp_any p.z q.z p.n p.cap q.n q.cap p.ao q.ao hp hq W i1 i2
    rwa [cmpK_Z, e] at this
  obtain ⟨k, hk⟩ : ∃ k, k = a % (n + 1) := ⟨_, rfl⟩
  have hkn : k ≤ n := by have := Nat.mod_lt a (show 0 < n + 1 by omega); omega
  have HK : Hid (((a : Int) % ((n : Int) + 1)) = ((k : Nat) : Int)) := by
    show _ = _
    rw [hk]
    simp
  have HKN := Lib.hid hkn
  have hk1 : (k : Int) ≤ 30 := by omega
  obtain ⟨K', hK'⟩ : ∃ K' : Nat → Key, K' = fun t => K (rot n k t) := ⟨_, rfl⟩
  have HK' := Lib.hid hK'
  obtain ⟨i0, hinf, hz0, hz1, hz2⟩ := info_parts infoK
  have n2 : (n : Int) ≤ 30 := by omega
  have nn : ((n : Int) != (n : Int)) = false := by simp
  clear h hraw h6 hn hk hkn hK'
  go_enter Try.func11, Try.ntmps11
  go_wp2_with fail
  refine HF.out.mono ?_
  rintro e w1 ⟨rfl, b, rfl, hb⟩
  obtain rfl : b = true := hb.2 HFT.out
  clear hb
  go_upto_region 4 with (fail)
  rw [HK.out]
  clear ha
  go_wp2_with fail
  go_loopw [6, 7] (fun sv iv wr => ∃ t : Nat, t ≤ n ∧ iv = .int .i64 (t : Nat) ∧ OwnsV wr w.heap.size 22 sv t (fun t => (K' t).val) ∧ Below w.heap.size w wr) (fun _ iv _ => n - (intOf iv).toNat)
  case atStart => exact ⟨0, Nat.zero_le _, rfl, OwnsV.nil _ _ _ _, Below.refl _ _⟩
  case round =>
    obtain ⟨t, ht, rfl, hown, hbel⟩ := hrel
    have ht2 : (t : Int) ≤ n := by omega
    by_cases hlt : t < n
    · have hlt2 : (t : Int) < n := by omega
      have HL := Lib.hid hlt
      obtain ⟨bk, ok, rfl, hbk, hck⟩ := (HKEYS.out wr hbel).2 (by omega)
      have c3 := hck (rot n k t) (rot_lt hlt HKN.out)
      have hrm : ((t : Int) + (k : Int)) % (n : Int) = ((rot n k t : Nat) : Int) := by rw [← rot_mod hlt HKN.out]; simp
      have hr2 : ((rot n k t : Nat) : Int) < n := by have := rot_lt hlt HKN.out; omega
      have HE : Hid (K' t = K (rot n k t)) := by show _ = _; rw [HK'.out]
      obtain ⟨r, hr⟩ : ∃ r, r = rot n k t := ⟨_, rfl⟩
      rw [← hr] at c3 hrm hr2 HE
      obtain ⟨ua, un, uc, hu⟩ : ∃ ua un uc, Value.slice ua un uc = (K r).val := ⟨_, _, _, rfl⟩
      have HU : Hid (Value.slice ua un uc = (K' t).val) := by show _ = _; rw [hu, HE.out]
      rw [← hu] at c3
      have hn1 : (1 : Int) ≤ n := by omega
      clear hck hbk hr hu hlt
      go_wp2_with (at_builtin; refine wpList_append_own _ rfl _ _ 61 rfl w.heap.size 22 i0 (.slice none 0 0) 1 24 Try.underlying61 hinf hz0 hz1 hz2 rfl (by decide) _ _ _ rfl (hown.alloc _) ⟨wr.heap.size, 0, none⟩ 1 1 [.slice ua un uc] rfl rfl ?c1 ?c2 ?c3 ?c4 ?c5 ?_)
      case c1 =>
        intro j' u' hj'
        match j', hj' with
        | 0, hj' => simp at hj'; subst hj'; simp [Addr.add]
      case c2 => intro u' hu'; simp at hu'; subst hu'; rfl
      case c3 => unfold maxLen; omega
      case c4 => omega
      case c5 => have := hbel.size; simp; omega
      intro v' w6 hown' hgrow _
      have hown2 : OwnsV w6 w.heap.size 22 v' (t + 1) (fun t => (K' t).val) := OwnsV.next (by rw [← HU.out]; exact hown')
      have hbel2 : Below w.heap.size w w6 := (hbel.alloc hbel.size _).grown hgrow (by have := hbel.size; simp; omega) (fun k' hk' => (hown.lt k' hk').1)
      have HOW2 := Lib.hid hown2
      have HBE2 := Lib.hid hbel2
      clear hown hown' hgrow hbel hown2 hbel2 c3
      go_wp2
      go_roundw
      case rel => exact ⟨t + 1, HL.out, by go_num, HOW2.out, HBE2.out⟩
      case measure => have := HL.out; simp [intOf]; omega
    · obtain rfl : t = n := by omega
      obtain ⟨ao2, cap2, rfl, hv⟩ := hown.view
      have HV := Lib.hid hv
      have HBE := Lib.hid hbel
      have HKT : Hid (∀ W, Below wr.heap.size wr W → KeysAt W ao2 t K') := fun W hb => by
        have hK := HKEYS.out W (HBE.out.trans (hb.mono HBE.out.size))
        refine ⟨fun i hi => ?_, fun hp => ?_⟩
        · have e : K' i = K (rot t k i) := by rw [HK'.out]
          rw [e]
          exact hK.1 _ (rot_lt hi HKN.out)
        · obtain ⟨b, e1, _, hl, hc⟩ := HV.out hp
          exact ⟨b, 0, e1, Nat.lt_of_lt_of_le hl hb.size, fun i hi => by rw [Nat.zero_add]; exact (hb.cell (by exact hl)).trans (hc i hi)⟩
      clear hv hown hbel hlt ht
      go_wp2_with fail
      refine (HO.out _ _ _ _ (HKEYS.out _ HBE.out)).mono ?_
      rintro e w1 ⟨h1, g, f, hg, rfl, hf, hi⟩
      have H1 := Lib.hid h1
      have HFF := Lib.hid hf
      have HI1 := Lib.hid hi
      clear h1 hg hf hi
      go_wp2_with fail
      refine (HO.out _ _ _ _ (HKT.out _ H1.out)).mono ?_
      rintro e w2 ⟨h2, g2, f2, hg2, rfl, hf2, hi2⟩
      have H2 : Hid (Below wr.heap.size wr w2) := H1.out.trans (h2.mono H1.out.size)
      have HFF2 := Lib.hid hf2
      have HI12 := Lib.hid (HI1.out.below h2)
      have HI22 := Lib.hid hi2
      clear h2 hg2 hf2 hi2 HI1
      have HCC : Hid (∀ q i, i < t → Calls Try.prog 38 #[(K (f i)).val, (K' (f2 i)).val] (w2.drewN q) (RetQ (.int .i64 0) (w2.drewN q))) := fun q i hi => by
        have k1 := (HKEYS.out w2 (HBE.out.trans (H2.out.mono HBE.out.size))).1 (f i) (HFF.out.of_ i hi).1
        have k2 := (HKT.out w2 H2.out).1 (f2 i) (HFF2.out.of_ i hi).1
        exact HCM.out (w2.drewN q) _ _ k1.1 k2.1 k1.2 k2.2 (turned_same HKN.out (fun t _ => by rw [HK'.out]) HFF.out HFF2.out i hi)
      go_wp2_with fail
      obtain ⟨wo, hwo⟩ : ∃ x, x = wr := ⟨_, rfl⟩
      subst hwo
      go_loopw [10] (fun iv wr => ∃ j : Nat, j ≤ t ∧ iv = .int .i64 (j : Nat) ∧ ∃ q, wr = w2.drewN q) (fun iv _ => t - (intOf iv).toNat)
      case atStart => exact ⟨0, Nat.zero_le _, rfl, 0, rfl⟩
      case round =>
        obtain ⟨j, hj, rfl, hq⟩ := hrel
        have HQ := Lib.hid hq
        have hj2 : (j : Int) ≤ t := by omega
        by_cases hlt : j < t
        · have hlt2 : (j : Int) < t := by omega
          have HL := Lib.hid hlt
          obtain ⟨b1, o1, e1, l1, cc1⟩ := HI12.out (by omega)
          obtain ⟨rfl, rfl⟩ : g = b1 ∧ 0 = o1 := by injection e1 with e1; injection e1 with a1 a2; exact ⟨a1, a2⟩
          obtain ⟨b2, o2, e2, l2, cc2⟩ := HI22.out (by omega)
          obtain ⟨rfl, rfl⟩ : g2 = b2 ∧ 0 = o2 := by injection e2 with e2; injection e2 with a1 a2; exact ⟨a1, a2⟩
          obtain ⟨b3, o3, rfl, l3, cc3⟩ := (HKEYS.out w2 (HBE.out.trans (H2.out.mono HBE.out.size))).2 (by omega)
          obtain ⟨b4, o4, rfl, l4, cc4⟩ := (HKT.out w2 H2.out).2 (by omega)
          have c1 : wr.cell? ⟨g, j, none⟩ = some (.int .i64 (f j : Nat)) := by
            obtain ⟨q, rfl⟩ := hq
            have := cc1 j hlt
            rwa [Nat.zero_add] at this
          have c2 : wr.cell? ⟨g2, j, none⟩ = some (.int .i64 (f2 j : Nat)) := by
            obtain ⟨q, rfl⟩ := hq
            have := cc2 j hlt
            rwa [Nat.zero_add] at this
          have c3 : wr.cell? ⟨b3, o3 + f j, none⟩ = some (K (f j)).val := by
            obtain ⟨q, rfl⟩ := hq
            exact cc3 _ (HFF.out.of_ j hlt).1
          have c4 : wr.cell? ⟨b4, o4 + f2 j, none⟩ = some (K' (f2 j)).val := by
            obtain ⟨q, rfl⟩ := hq
            exact cc4 _ (HFF2.out.of_ j hlt).1
          have HCJ : Hid (∀ q : Nat, Calls Try.prog 38 #[(K (f j)).val, (K' (f2 j)).val] (wr.drewN q) (fun e w' => e = .returned (.int .i64 0) ∧ ∃ i, w' = (wr.drewN q).drewN i)) := fun q => by
            obtain ⟨q0, rfl⟩ := hq
            rw [World.drewN_drewN]
            exact HCC.out _ j hlt
          have x1 := (HFF.out.of_ j hlt).1
          have x2 := (HFF2.out.of_ j hlt).1
          generalize (K (f j)).val = u1 at *
          generalize (K' (f2 j)).val = u2 at *
          generalize f j = p1 at *
          generalize f2 j = p2 at *
          have y1 : (p1 : Int) < t := by omega
          have y2 : (p2 : Int) < t := by omega
          have d1 : decide ((t : Int) ≤ (p1 : Int)) = false := decide_eq_false (by omega)
          have d2 : decide ((t : Int) ≤ (p2 : Int)) = false := decide_eq_false (by omega)
          have d3 : decide (t ≤ p1) = false := decide_eq_false (by omega)
          have d4 : decide (t ≤ p2) = false := decide_eq_false (by omega)
          have d5 : decide ((p1 : Int) < 0) = false := decide_eq_false (by omega)
          have d6 : decide ((p2 : Int) < 0) = false := decide_eq_false (by omega)
          clear cc1 cc2 cc3 cc4 l1 l2 l3 l4 e1 e2 hq x1 x2 hlt
          go_wp2_with fail
          go_quiet ((go_at_call 38; exact Calls.quiet_of (HCJ.out _)))
          go_wp2
          go_roundw
          case rel => exact ⟨j + 1, HL.out, by go_num, drew_two HQ.out⟩
          case measure => have := HL.out; simp [intOf]; omega
        · obtain rfl : j = t := by omega
          have H3 : Hid (Below w.heap.size w wr) := by
            obtain ⟨q, rfl⟩ := hq
            exact Below.drewN (HBE.out.trans (H2.out.mono HBE.out.size)) q
          clear hq
          go_wp2_with fail
          refine (HX.out _).mono ?_
          rintro e w5 ⟨rfl, h5⟩
          have H5 : Hid (Below w.heap.size w w5) := H3.out.trans (h5.mono H3.out.size)
          clear h5
          go_wp2
          go_ret
          exact ⟨rfl, H5.out⟩
end Go.Proofs.Ytncbieaobadekaa
