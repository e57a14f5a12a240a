/- slices.Concat of two lists of keys; package rank: Merge. -/
import Derived.Test.YtncbieaobadekaaRankMerged
import Derived.Laws.AppendOwnNone
namespace Go.Proofs.Ytncbieaobadekaa
open Go.ChangeShapes Go.WideShapes Go.ChangeAt Go.RowKit
theorem grow_any (n : Nat) (hn : n ≤ 40) (f : Nat → Value) (w : World) :
    Calls Try.prog 88 #[.slice none 0 0, .int .i64 n] w (fun e w' => ∃ v, e = .returned v ∧ OwnsV w' w.heap.size 22 v 0 f ∧ Below w.heap.size w w') := by
  rcases Nat.eq_zero_or_pos n with rfl | hp
  · refine (Try.grow_keys_room none 0 0 0 w (by omega) (by omega) (by omega) (by omega)).mono ?_
    rintro e w' ⟨rfl, rfl⟩
    exact ⟨_, rfl, OwnsV.nil _ _ _ _, Below.refl _ _⟩
  · obtain ⟨i0, hinf, hz0, hz1, hz2⟩ := info_parts infoK
    refine (Try.grow_keys i0 (.slice none 0 0) hinf hz0 (by omega) none 0 0 n [] w (by omega) (by omega) (by rw [hz2]; omega) (by omega) (by simp) (fun _ => rfl) (fun a h => by cases h)).mono ?_
    rintro e w' ⟨rfl, rfl⟩
    have hge := grownCap_ge w (0 + n) 0 22
    have hge2 : n ≤ grownCap w n 0 22 := by simpa using hge
    have hle := grownCap_le_maxLen w (0 + n) 0 22 (by unfold maxLen; omega)
    refine ⟨_, rfl, ⟨rfl, Or.inr ⟨w.heap.size, _, _, rfl, Nat.le_refl _, heap_alloc_new w.drew _, Nat.zero_le _, hle, ?_, by simp⟩⟩, ((Below.refl _ _).drew).alloc (Nat.le_refl _) _⟩
    simp only [Array.size_append, size_zeroCells]
    have : (Value.slice none 0 0).cells.size = 1 := rfl
    rw [this]
    simp
    omega
theorem append_list {w : World} {n : Nat} {K : Nat → Key} {b off : Nat} (hc : ∀ i, i < n → w.cell? ⟨b, off + i, none⟩ = some (K i).val) : ∀ j u, ((List.range n).map fun i => (K i).val)[j]? = some u → w.cell? ((⟨b, off, none⟩ : Addr).add j) = some u := fun j u hj => by
  have hj2 : j < n := by
    have := (List.getElem?_eq_some_iff.1 hj).1
    simpa using this
  have e : (⟨b, off, none⟩ : Addr).add j = ⟨b, off + j, none⟩ := by unfold Addr.add; split <;> simp_all
  rw [e, hc j hj2]
  simp [hj2] at hj
  rw [hj]
theorem vals_one {n : Nat} {K : Nat → Key} : ∀ u ∈ ((List.range n).map fun i => (K i).val), u.oneCell' = true := fun u hu => by
  obtain ⟨i, _, rfl⟩ := List.mem_map.1 hu
  rfl
theorem join_vals (n m : Nat) (A B : Nat → Key) : ((List.range n).map fun t => (joinK n A B t).val) ++ ((List.range m).map fun i => (B i).val) = (List.range (n + m)).map fun t => (joinK n A B t).val := by
  rw [← range_join, List.map_append, List.map_map]
  congr 1
  exact List.map_congr_left fun i _ => by show _ = (joinK n A B (n + i)).val; rw [joinK_b]
set_option maxRecDepth 100000 in
set_option maxHeartbeats 8000000 in
theorem concat_any (A B : Nat → Key) (n m cap cap' : Nat) (ao bo : Option Addr) (hn : n ≤ 20) (hm : m ≤ 20) (hao : ao = none → cap = 0) (hbo : bo = none → cap' = 0) (b : Nat) (w : World) (h1 : KeysAt w ao n A) (h2 : KeysAt w bo m B) (hb : b < w.heap.size) (c0 : w.cell? ⟨b, 0, none⟩ = some (.slice ao n cap)) (c1 : w.cell? ⟨b, 1, none⟩ = some (.slice bo m cap')) :
    Calls Try.prog 72 #[.slice (some ⟨b, 0, none⟩) 2 2] w (fun e w' => ∃ v, e = .returned v ∧ OwnsV w' w.heap.size 22 v (n + m) (fun t => (joinK n A B t).val) ∧ Below w.heap.size w w') := by
  have HA : Hid (∀ W, Below w.heap.size w W → KeysAt W ao n A) := fun W hb => h1.below hb
  have HB : Hid (∀ W, Below w.heap.size w W → KeysAt W bo m B) := fun W hb => h2.below hb
  have HG := Lib.hid (grow_any (n + m) (by omega) (fun t => (joinK n A B t).val) w)
  have HC0 : Hid (∀ W, Below w.heap.size w W → W.cell? ⟨b, 0, none⟩ = some (.slice ao n cap)) := fun W hW => (hW.cell (by exact hb)).trans c0
  have HC1 : Hid (∀ W, Below w.heap.size w W → W.cell? ⟨b, 1, none⟩ = some (.slice bo m cap')) := fun W hW => (hW.cell (by exact hb)).trans c1
  have HAO := Lib.hid hao
  have HBO := Lib.hid hbo
  have HN : Hid (ao = none → n = 0) := fun e => by
    rcases Nat.eq_zero_or_pos n with h | h
    · exact h
    · obtain ⟨_, _, e', _⟩ := h1.2 h
      rw [e] at e'; cases e'
  have HM : Hid (bo = none → m = 0) := fun e => by
    rcases Nat.eq_zero_or_pos m with h | h
    · exact h
    · obtain ⟨_, _, e', _⟩ := h2.2 h
      rw [e] at e'; cases e'
  obtain ⟨i0, hinf, hz0, hz1, hz2⟩ := info_parts infoK
  have n2 : (n : Int) ≤ 20 := by omega
  have m2 : (m : Int) ≤ 20 := by omega
  clear h1 h2 c0 c1 hao hbo hb hn hm
  go_enter Try.func72, Try.ntmps72
  go_wp2_with fail
  go_loop [3, 11] (fun sv iv => (iv = .int .i64 0 ∧ sv = .int .i64 0) ∨ (iv = .int .i64 1 ∧ sv = .int .i64 (n : Nat)) ∨ (iv = .int .i64 2 ∧ sv = .int .i64 (n + m : Nat))) (fun _ iv => 2 - (intOf iv).toNat)
  case atStart => exact Or.inl ⟨rfl, rfl⟩
  case round =>
    rcases hrel with ⟨rfl, rfl⟩ | ⟨rfl, rfl⟩ | ⟨rfl, rfl⟩
    · have c0 := HC0.out w (Below.refl _ _)
      go_wp2
      go_round
      case rel => exact Or.inr (Or.inl ⟨rfl, rfl⟩)
      case measure => simp [intOf]
    · have c1 := HC1.out w (Below.refl _ _)
      go_wp2
      go_round
      case rel => exact Or.inr (Or.inr ⟨rfl, by go_num⟩)
      case measure => simp [intOf]
    · go_wp2_with fail
      refine HG.out.mono ?_
      rintro e w1 ⟨v, rfl, hown, hbel⟩
      have HOW := Lib.hid hown
      have HBE := Lib.hid hbel
      clear hown hbel HG
      go_wp2_with fail
      go_loopw [6, 27] (fun sv iv wr => Below w.heap.size w wr ∧ ((iv = .int .i64 0 ∧ OwnsV wr w.heap.size 22 sv 0 (fun t => (joinK n A B t).val)) ∨ (iv = .int .i64 1 ∧ OwnsV wr w.heap.size 22 sv n (fun t => (joinK n A B t).val)) ∨ (iv = .int .i64 2 ∧ OwnsV wr w.heap.size 22 sv (n + m) (fun t => (joinK n A B t).val)))) (fun _ iv _ => 2 - (intOf iv).toNat)
      case atStart => exact ⟨HBE.out, Or.inl ⟨rfl, HOW.out⟩⟩
      case round =>
        clear HOW HBE
        obtain ⟨hbel, ⟨rfl, hown⟩ | ⟨rfl, hown⟩ | ⟨rfl, hown⟩⟩ := hrel
        · have c0 := HC0.out wr hbel
          rcases ao with _ | ad
          · have hcap := HAO.out rfl
            have hn0 := HN.out rfl
            rw [hcap, hn0] at c0
            have HN0 := Lib.hid hn0
            have HOW := Lib.hid hown
            have HBE := Lib.hid hbel
            clear hcap hn0
            go_wp2_with (at_builtin; refine wpList_append_own_none rfl _ _ 61 rfl w.heap.size 22 i0 1 Try.underlying61 hinf _ _ _ rfl hown rfl ?_)
            clear hown hbel c0
            go_wp2
            go_roundw
            case rel => exact ⟨HBE.out, Or.inr (Or.inl ⟨rfl, by rw [HN0.out]; have := HOW.out; rwa [HN0.out] at this⟩)⟩
            case measure => simp [intOf]
          · have hcl : ∀ j u, ((List.range n).map fun i => (A i).val)[j]? = some u → wr.cell? (ad.add j) = some u := by
              rcases Nat.eq_zero_or_pos n with h | h
              · subst h; intro j u hj; simp at hj
              · obtain ⟨b1, o1, e1, _, hc⟩ := (HA.out wr hbel).2 h
                injection e1 with e1
                subst e1
                exact append_list hc
            have HCL := Lib.hid hcl
            have HJ : Hid (((List.range n).map fun i => (A i).val) = (List.range n).map fun t => (joinK n A B t).val) := by
              show _ = _
              exact List.map_congr_left fun i hi => by rw [joinK_a (List.mem_range.1 hi)]
            clear hcl
            go_wp2_with (at_builtin; refine wpList_append_own _ rfl _ _ 61 rfl w.heap.size 22 i0 (.slice none 0 0) 1 24 Try.underlying61 hinf hz0 hz1 hz2 rfl (by decide) _ 0 [] rfl hown ad n cap ((List.range n).map fun i => (A i).val) rfl ?c0 ?c1 ?c2 ?c3 ?c4 ?c5 ?_)
            case c0 => simp
            case c1 => exact HCL.out
            case c2 => exact vals_one
            case c3 => unfold maxLen; omega
            case c4 => omega
            case c5 => have := hbel.size; omega
            intro v' w6 hown' hgrow _
            have HOW2 : Hid (OwnsV w6 w.heap.size 22 v' n (fun t => (joinK n A B t).val)) := by
              try rw [List.nil_append] at hown'
              try rw [Nat.zero_add] at hown'
              rw [HJ.out] at hown'
              exact hown'
            have HBE2 : Hid (Below w.heap.size w w6) := hbel.grown hgrow hbel.size (fun k' hk' => (hown.lt k' hk').1)
            clear hown hown' hgrow hbel c0
            go_wp2
            go_roundw
            case rel => exact ⟨HBE2.out, Or.inr (Or.inl ⟨rfl, HOW2.out⟩)⟩
            case measure => simp [intOf]
        · have c1 := HC1.out wr hbel
          rcases bo with _ | ad
          · have hcap := HBO.out rfl
            have hn0 := HM.out rfl
            rw [hcap, hn0] at c1
            have HN0 := Lib.hid hn0
            have HOW := Lib.hid hown
            have HBE := Lib.hid hbel
            clear hcap hn0
            go_wp2_with (at_builtin; refine wpList_append_own_none rfl _ _ 61 rfl w.heap.size 22 i0 1 Try.underlying61 hinf _ _ _ rfl hown rfl ?_)
            clear hown hbel c1
            go_wp2
            go_roundw
            case rel => exact ⟨HBE.out, Or.inr (Or.inr ⟨rfl, by rw [HN0.out, Nat.add_zero]; exact HOW.out⟩)⟩
            case measure => simp [intOf]
          · have hcl : ∀ j u, ((List.range m).map fun i => (B i).val)[j]? = some u → wr.cell? (ad.add j) = some u := by
              rcases Nat.eq_zero_or_pos m with h | h
              · subst h; intro j u hj; simp at hj
              · obtain ⟨b1, o1, e1, _, hc⟩ := (HB.out wr hbel).2 h
                injection e1 with e1
                subst e1
                exact append_list hc
            have HCL := Lib.hid hcl
            have HJ := Lib.hid (join_vals n m A B)
            clear hcl
            go_wp2_with (at_builtin; refine wpList_append_own _ rfl _ _ 61 rfl w.heap.size 22 i0 (.slice none 0 0) 1 24 Try.underlying61 hinf hz0 hz1 hz2 rfl (by decide) _ n _ rfl hown ad m cap' ((List.range m).map fun i => (B i).val) rfl ?d0 ?d1 ?d2 ?d3 ?d4 ?d5 ?_)
            case d0 => simp
            case d1 => exact HCL.out
            case d2 => exact vals_one
            case d3 => unfold maxLen; omega
            case d4 => omega
            case d5 => have := hbel.size; omega
            intro v' w6 hown' hgrow _
            have HOW2 : Hid (OwnsV w6 w.heap.size 22 v' (n + m) (fun t => (joinK n A B t).val)) := by
              rw [HJ.out] at hown'
              exact hown'
            have HBE2 : Hid (Below w.heap.size w w6) := hbel.grown hgrow hbel.size (fun k' hk' => (hown.lt k' hk').1)
            clear hown hown' hgrow hbel c1
            go_wp2
            go_roundw
            case rel => exact ⟨HBE2.out, Or.inr (Or.inr ⟨rfl, HOW2.out⟩)⟩
            case measure => simp [intOf]
        · have HOW := Lib.hid hown
          have HBE := Lib.hid hbel
          clear hown hbel
          go_wp2
          go_ret
          exact ⟨_, rfl, HOW.out, HBE.out⟩
theorem OwnsV.keys {W : World} {B n : Nat} {v : Value} {K : Nat → Key} (h : OwnsV W B 22 v n (fun t => (K t).val)) (hk : ∀ i, i < n → (K i).n ≤ 1000000 ∧ IntsAt W (K i).ao (K i).n (K i).z) : ∃ ao cap, v = .slice ao n cap ∧ KeysAt W ao n K := by
  obtain ⟨ao, cap, rfl, hv⟩ := h.view
  refine ⟨ao, cap, rfl, hk, fun hp => ?_⟩
  obtain ⟨b, e1, _, hlt, hc⟩ := hv hp
  exact ⟨b, 0, e1, hlt, fun i hi => by rw [Nat.zero_add]; exact hc i hi⟩
theorem join_keys {W : World} {n m : Nat} {A B : Nat → Key} {ao bo : Option Addr} (h1 : KeysAt W ao n A) (h2 : KeysAt W bo m B) : ∀ i, i < n + m → (joinK n A B i).n ≤ 1000000 ∧ IntsAt W (joinK n A B i).ao (joinK n A B i).n (joinK n A B i).z := fun i hi => by
  by_cases h : i < n
  · rw [joinK_a h]; exact h1.1 i h
  · obtain ⟨t, rfl⟩ : ∃ t, i = n + t := ⟨i - n, by omega⟩
    rw [joinK_b]; exact h2.1 t (by omega)
set_option maxRecDepth 100000 in
set_option maxHeartbeats 4000000 in
theorem merge_any (A B : Nat → Key) (n m cap cap' : Nat) (ao bo : Option Addr) (hn : n ≤ 20) (hm : m ≤ 20) (hao : ao = none → cap = 0) (hbo : bo = none → cap' = 0) (w : World) (h1 : KeysAt w ao n A) (h2 : KeysAt w bo m B) :
    Calls Try.prog 46 #[.slice ao n cap, .slice bo m cap'] w (OrderOf (joinK n A B) (n + m) w) := by
  have HA : Hid (∀ W, Below w.heap.size w W → KeysAt W ao n A) := fun W hb => h1.below hb
  have HB : Hid (∀ W, Below w.heap.size w W → KeysAt W bo m B) := fun W hb => h2.below hb
  have HRA := Lib.hid (fun W h => rises_any A n cap false ao (by omega) W h)
  have HRB := Lib.hid (fun W h => rises_any B m cap' false bo (by omega) W h)
  have HM := Lib.hid (fun ha hb W h1 h2 => merged_any A B n m cap cap' ao bo hn hm ha hb W h1 h2)
  have HC := Lib.hid (fun b W h1 h2 hb c0 c1 => concat_any A B n m cap cap' ao bo hn hm hao hbo b W h1 h2 hb c0 c1)
  have HO := Lib.hid (fun ao' cap'' W h => order_any (joinK n A B) (n + m) cap'' ao' (by omega) W h)
  have HCON : Hid (∀ q : Nat, Calls Try.prog 72 #[.slice (some ⟨w.heap.size, 0, none⟩) 2 2] ((w.drewN q).alloc (.cells #[.slice ao n cap, .slice bo m cap'] 61)) (fun e w' => ∃ ao' cap'', e = .returned (.slice ao' (n + m) cap'') ∧ KeysAt w' ao' (n + m) (joinK n A B) ∧ Below w.heap.size w w')) := fun q => by
    have hb1 : Below w.heap.size w ((w.drewN q).alloc (.cells #[.slice ao n cap, .slice bo m cap'] 61)) := (Below.drewN (Below.refl _ _) q).alloc (Nat.le_refl _) _
    have hsz : w.heap.size < ((w.drewN q).alloc (.cells #[.slice ao n cap, .slice bo m cap'] 61)).heap.size := by
      show w.heap.size < (World.alloc (w.drewN q) _).heap.size
      simp
    have a1 := HA.out _ hb1
    have a2 := HB.out _ hb1
    refine (HC.out w.heap.size _ a1 a2 hsz (World.cell?_alloc_new (w.drewN q) _ _ 0) (World.cell?_alloc_new (w.drewN q) _ _ 1)).mono ?_
    rintro e w' ⟨v, rfl, hown, hbel⟩
    have hb2 : Below w.heap.size w w' := hb1.trans (hbel.mono hb1.size)
    obtain ⟨ao', cap'', rfl, hk⟩ := hown.keys (join_keys (HA.out _ hb2) (HB.out _ hb2))
    exact ⟨ao', cap'', rfl, hk, hb2⟩
  have K0 := Lib.hid (HA.out w (Below.refl _ _))
  have K1 := Lib.hid (HB.out w (Below.refl _ _))
  obtain ⟨b1, hb1⟩ : ∃ b1, b1 = risesN A false n := ⟨_, rfl⟩
  obtain ⟨b2, hb2⟩ : ∃ b2, b2 = risesN B false m := ⟨_, rfl⟩
  rw [← hb1] at HRA HM
  rw [← hb2] at HRB HM
  clear hb1 hb2 h1 h2 hao hbo hn hm HC
  cases b1
  · go_enter Try.func46, Try.ntmps46
    go_wp2_with fail
    refine (HRA.out w K0.out).mono ?_
    rintro e w1 ⟨rfl, q, rfl⟩
    go_wp2_with fail
    refine (HCON.out q).mono ?_
    rintro e w2 ⟨ao', cap'', rfl, hk, hb2⟩
    have HK2 := Lib.hid hk
    have HB2 := Lib.hid hb2
    clear hk hb2
    go_wp2_with fail
    refine (HO.out ao' cap'' w2 HK2.out).mono ?_
    rintro e w3 ⟨h3, g, f, hg, rfl, hf, hi⟩
    have H3 : Hid (Below w.heap.size w w3) := HB2.out.trans (h3.mono HB2.out.size)
    have HFF := Lib.hid hf
    have HII := Lib.hid hi
    clear h3 hg hf hi
    go_wp2
    go_ret
    exact ⟨H3.out, _, _, f, rfl, HFF.out, HII.out⟩
  · cases b2
    · go_enter Try.func46, Try.ntmps46
      go_wp2_with fail
      refine (HRA.out w K0.out).mono ?_
      rintro e w1 ⟨rfl, q, rfl⟩
      have K2 : Hid (KeysAt (w.drewN q) bo m B) := K1.out
      go_wp2_with fail
      refine (HRB.out _ K2.out).mono ?_
      rintro e w1 ⟨rfl, q2, rfl⟩
      rw [World.drewN_drewN]
      go_wp2_with fail
      refine (HCON.out _).mono ?_
      rintro e w2 ⟨ao', cap'', rfl, hk, hb2⟩
      have HK2 := Lib.hid hk
      have HB2 := Lib.hid hb2
      clear hk hb2
      go_wp2_with fail
      refine (HO.out ao' cap'' w2 HK2.out).mono ?_
      rintro e w3 ⟨h3, g, f, hg, rfl, hf, hi⟩
      have H3 : Hid (Below w.heap.size w w3) := HB2.out.trans (h3.mono HB2.out.size)
      have HFF := Lib.hid hf
      have HII := Lib.hid hi
      clear h3 hg hf hi
      go_wp2
      go_ret
      exact ⟨H3.out, _, _, f, rfl, HFF.out, HII.out⟩
    · go_enter Try.func46, Try.ntmps46
      go_wp2_with fail
      refine (HRA.out w K0.out).mono ?_
      rintro e w1 ⟨rfl, q, rfl⟩
      have K2 : Hid (KeysAt (w.drewN q) bo m B) := K1.out
      go_wp2_with fail
      refine (HRB.out _ K2.out).mono ?_
      rintro e w1 ⟨rfl, q2, rfl⟩
      rw [World.drewN_drewN]
      have K3 : Hid (KeysAt (w.drewN (q + q2)) ao n A) := K0.out
      have K4 : Hid (KeysAt (w.drewN (q + q2)) bo m B) := K1.out
      have HB1 : Hid (Below w.heap.size w (w.drewN (q + q2))) := Below.drewN (Below.refl _ _) _
      generalize w.drewN (q + q2) = w1 at *
      have HMM := Lib.hid (HM.out (by first | trivial | rfl) (by first | trivial | rfl) w1 K3.out K4.out)
      go_wp2_with fail
      refine HMM.out.mono ?_
      rintro e w2 ⟨h2, ro, rc, f, rfl, hf, hi⟩
      have H2 : Hid (Below w.heap.size w w2) := HB1.out.trans (h2.mono HB1.out.size)
      have HFF := Lib.hid hf
      have HII := Lib.hid hi
      clear h2 hf hi
      go_wp2
      go_ret
      exact ⟨H2.out, ro, rc, f, rfl, HFF.out, HII.out⟩
end Go.Proofs.Ytncbieaobadekaa
