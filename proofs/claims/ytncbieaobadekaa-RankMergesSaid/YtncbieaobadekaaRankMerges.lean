/- Package rank: Runs; the law RankMerges answers true. -/
import Derived.Test.YtncbieaobadekaaRankConcat
namespace Go.Proofs.Ytncbieaobadekaa
open Go.ChangeShapes Go.WideShapes Go.ChangeAt Go.RowKit
theorem OwnsL.nil (w : World) (B : Nat) : OwnsL w B (.slice none 0 0) [] := World.ownsRow_nil _ _ _ _
theorem OwnsL.drewN {w : World} {B : Nat} {v : Value} {L : List Nat} (h : OwnsL w B v L) (q : Nat) : OwnsL (w.drewN q) B v L := h
set_option maxRecDepth 100000 in
set_option maxHeartbeats 4000000 in
theorem runs_any (K : Nat → Key) (n cap : Nat) (ao : Option Addr) (hn : n ≤ 1000) (w : World) (h : KeysAt w ao n K) :
    Calls Try.prog 47 #[.slice ao n cap] w (fun e w' => ∃ v, e = .returned v ∧ OwnsL w' w.heap.size v (runsL K n) ∧ Below w.heap.size w w') := by
  have HK : Hid (∀ W, Below w.heap.size w W → KeysAt W ao n K) := fun W hb => h.below hb
  have HC : Hid (∀ W i j, i < n → j < n → Below w.heap.size w W → Calls Try.prog 37 #[(K i).val, (K j).val] W (RetS (.int .i64 (cmpK (K i) (K j))) W)) := fun W i j hi hj hb => by
    have p1 := (h.below hb).1 i hi
    have p2 := (h.below hb).1 j hj
    have := rcmp_any (K i).z (K j).z (K i).n (K i).cap (K j).n (K j).cap (K i).ao (K j).ao p1.1 p2.1 W p1.2 p2.2
    rwa [cmpK_Z] at this
  obtain ⟨i0, hinf, hz0, hz1, hz2⟩ := info_parts infoN'
  have n2 : (n : Int) ≤ 1000 := by omega
  clear h hn
  go_enter Try.func47, Try.ntmps47
  go_wp2_with fail
  go_loopw [3, 8] (fun sv iv wr => ∃ k : Nat, k ≤ n ∧ iv = .int .i64 (k : Nat) ∧ OwnsL wr w.heap.size sv (runsL K k) ∧ Below w.heap.size w wr) (fun _ iv _ => n - (intOf iv).toNat)
  case atStart => exact ⟨0, Nat.zero_le _, rfl, OwnsL.nil _ _, Below.refl _ _⟩
  case round =>
    obtain ⟨k, hk, rfl, hown, hbel⟩ := hrel
    have hk2 : (k : Int) ≤ n := by omega
    have hlen := runsL_len K k
    by_cases hlt : k < n
    · have hlt2 : (k : Int) < n := by omega
      have HL := Lib.hid hlt
      obtain ⟨b, off, rfl, hb, hc⟩ := (HK.out wr hbel).2 (by omega)
      have c1 := hc k hlt
      have HBE := Lib.hid hbel
      have HOW := Lib.hid hown
      rcases k with _ | j
      · obtain ⟨u, hu⟩ : ∃ u, u = (K 0).val := ⟨_, rfl⟩
        rw [← hu, Nat.add_zero] at c1
        clear hc hb hu hlt
        go_wp2_with (at_builtin; refine wpList_append_own _ rfl _ _ 63 rfl w.heap.size 3 i0 (.int .i64 0) 1 8 Try.underlying63 hinf hz0 hz1 hz2 rfl (by decide) _ _ _ rfl (hown.alloc _) ⟨wr.heap.size, 0, none⟩ 1 1 [.int .i64 0] rfl rfl ?c1 ?c2 ?c3 ?c4 ?c5 ?_)
        case c1 =>
          intro j' u' hj'
          match j', hj' with
          | 0, hj' => simp at hj'; subst hj'; simp [Addr.add]
        case c2 => intro u' hu'; simp at hu'; subst hu'; rfl
        case c3 => unfold maxLen; simp [runsL]
        case c4 => simp [runsL]
        case c5 => have := hbel.size; simp; omega
        intro v' w6 hown' hgrow _
        have HOW2 : Hid (OwnsL w6 w.heap.size v' (runsL K 1)) := OwnsL.next (L := []) (x := 0) hown'
        have HBE2 : Hid (Below w.heap.size w w6) := (hbel.alloc hbel.size _).grown hgrow (by have := hbel.size; simp; omega) (fun k' hk' => (hown.lt k' hk').1)
        clear hown hown' hgrow hbel c1 HOW HBE
        go_wp2
        go_roundw
        case rel => exact ⟨1, HL.out, rfl, HOW2.out, HBE2.out⟩
        case measure => have := HL.out; simp [intOf]; omega
      · have c0 := hc j (by omega)
        have HCC := Lib.hid (HC.out wr j (j + 1) (by omega) hlt hbel)
        have hj3 : (j : Int) + 1 < n := by omega
        have hj4 : (j : Int) < n := by omega
        have i1 : ((j : Int) + 1 - 1) = (j : Int) := by omega
        have i2 : ((j : Int) + 1 == 0) = false := by rw [beq_eq_false_iff_ne]; omega
        have hrl : runsL K (j + 2) = if cmpK (K j) (K (j + 1)) = 0 then runsL K (j + 1) else runsL K (j + 1) ++ [j + 1] := rfl
        have hlen2 : (runsL K (j + 1)).length ≤ 1000 := by omega
        clear hc hb hlt hlen
        by_cases hz : cmpK (K j) (K (j + 1)) = 0
        · rw [if_pos hz] at hrl
          have HRL := Lib.hid hrl
          rw [hz] at HCC
          clear hrl hz hown hbel hlen2
          generalize (K j).val = u at *
          generalize (K (j + 1)).val = v at *
          go_wp2_with fail
          refine HCC.out.mono ?_
          rintro e w1 ⟨rfl, rfl⟩
          go_wp2
          go_roundw
          case rel => exact ⟨j + 1 + 1, HL.out, by go_num, by rw [HRL.out]; exact HOW.out, HBE.out⟩
          case measure => have := HL.out; simp [intOf]; omega
        · rw [if_neg hz] at hrl
          have HRL := Lib.hid hrl
          obtain ⟨c, hcc⟩ : ∃ c, c = cmpK (K j) (K (j + 1)) := ⟨_, rfl⟩
          rw [← hcc] at HCC hz
          have d1 : (c != 0) = true := by simpa using hz
          have d2 : (c == 0) = false := by simpa using hz
          clear hrl hz hcc
          generalize (K j).val = u at *
          generalize (K (j + 1)).val = v at *
          go_wp2_with fail
          refine HCC.out.mono ?_
          rintro e w1 ⟨rfl, rfl⟩
          go_wp2_with (at_builtin; refine wpList_append_own _ rfl _ _ 63 rfl w.heap.size 3 i0 (.int .i64 0) 1 8 Try.underlying63 hinf hz0 hz1 hz2 rfl (by decide) _ _ _ rfl (hown.alloc _) ⟨wr.heap.size, 0, none⟩ 1 1 [.int .i64 ((j : Int) + 1)] rfl rfl ?d1 ?d2 ?d3 ?d4 ?d5 ?_)
          case d1 =>
            intro j' u' hj'
            match j', hj' with
            | 0, hj' => simp at hj'; subst hj'; simp [Addr.add]
          case d2 => intro u' hu'; simp at hu'; subst hu'; rfl
          case d3 => unfold maxLen; omega
          case d4 => omega
          case d5 => have := hbel.size; simp; omega
          intro v' w6 hown' hgrow _
          have HOW2 : Hid (OwnsL w6 w.heap.size v' (runsL K (j + 1) ++ [j + 1])) := OwnsL.next (x := j + 1) hown'
          have HBE2 : Hid (Below w.heap.size w w6) := (hbel.alloc hbel.size _).grown hgrow (by have := hbel.size; simp; omega) (fun k' hk' => (hown.lt k' hk').1)
          clear hown hown' hgrow hbel c1 c0 HOW HBE
          go_wp2
          go_roundw
          case rel => exact ⟨j + 1 + 1, HL.out, by go_num, by rw [HRL.out]; exact HOW2.out, HBE2.out⟩
          case measure => have := HL.out; simp [intOf]; omega
    · obtain rfl : k = n := by omega
      have HBE := Lib.hid hbel
      have HOW := Lib.hid hown
      clear hown hbel hlt hlen
      go_wp2
      go_ret
      exact ⟨_, rfl, HOW.out, HBE.out⟩
set_option maxHeartbeats 1000000 in
theorem merges_long (A B : Nat → Key) (n m cap cap' : Nat) (ao bo : Option Addr) (hn : n ≤ 9223372036854775807) (hm : m ≤ 9223372036854775807) (w : World) (h1 : RawKeys w ao n A) (h2 : RawKeys w bo m B) (hl : ¬ ((n ≤ 20 ∧ ∀ i, i < n → (A i).n ≤ 6) ∧ (m ≤ 20 ∧ ∀ i, i < m → (B i).n ≤ 6))) :
    Calls Try.prog 12 #[.slice ao n cap, .slice bo m cap'] w (Ret (.bool true) w) := by
  have HX := Lib.hid (awake_any w)
  have HF := Lib.hid (few_any A n cap ao 20 (by decide) hn w h1)
  have HG := Lib.hid (few_any B m cap' bo 20 (by decide) hm w h2)
  have HL := Lib.hid hl
  clear h1 h2 hl hn hm
  go_enter Try.func12, Try.ntmps12
  go_wp2_with fail
  refine HF.out.mono ?_
  rintro e w1 ⟨rfl, b, rfl, hb⟩
  cases b
  · clear hb
    go_wp2_with fail
    refine HX.out.mono ?_
    rintro e w2 ⟨rfl, h1⟩
    go_wp2
    go_ret
    exact ⟨rfl, h1⟩
  · have HBB := Lib.hid hb
    clear hb
    go_wp2_with fail
    refine HG.out.mono ?_
    rintro e w1 ⟨rfl, b, rfl, hb⟩
    obtain rfl : b = false := by
      cases b
      · rfl
      · exact absurd ⟨HBB.out.1 (by first | trivial | rfl), hb.1 rfl⟩ HL.out
    clear hb
    go_wp2_with fail
    refine HX.out.mono ?_
    rintro e w2 ⟨rfl, h1⟩
    go_wp2
    go_ret
    exact ⟨rfl, h1⟩
set_option maxRecDepth 100000 in
set_option maxHeartbeats 8000000 in
theorem merges_short (A B : Nat → Key) (n m cap cap' : Nat) (ao bo : Option Addr) (hn : n ≤ 20) (hm : m ≤ 20) (ha6 : ∀ i, i < n → (A i).n ≤ 6) (hb6 : ∀ i, i < m → (B i).n ≤ 6) (hao : ao = none → cap = 0) (hbo : bo = none → cap' = 0) (w : World) (hr1 : RawKeys w ao n A) (hr2 : RawKeys w bo m B) :
    Calls Try.prog 12 #[.slice ao n cap, .slice bo m cap'] w (Ret (.bool true) w) := by
  have h1 : KeysAt w ao n A := hr1.keys fun i hi => by have := ha6 i hi; omega
  have h2 : KeysAt w bo m B := hr2.keys fun i hi => by have := hb6 i hi; omega
  have HA : Hid (∀ W, Below w.heap.size w W → KeysAt W ao n A) := fun W hb => h1.below hb
  have HB : Hid (∀ W, Below w.heap.size w W → KeysAt W bo m B) := fun W hb => h2.below hb
  have HX := Lib.hid (fun W => awake_any W)
  have HF := Lib.hid (few_any A n cap ao 20 (by decide) (by omega) w hr1)
  have HG := Lib.hid (few_any B m cap' bo 20 (by decide) (by omega) w hr2)
  have HFT : Hid (n ≤ 20 ∧ ∀ i, i < n → (A i).n ≤ 6) := ⟨hn, ha6⟩
  have HGT : Hid (m ≤ 20 ∧ ∀ i, i < m → (B i).n ≤ 6) := ⟨hm, hb6⟩
  have HM := Lib.hid (fun W h1 h2 => merge_any A B n m cap cap' ao bo hn hm hao hbo W h1 h2)
  have HRO := Lib.hid (fun ao' cap'' W hk => reforder_any (joinK n A B) (n + m) cap'' ao' (by omega) W hk)
  have HRU := Lib.hid (fun ao' cap'' W hk => runs_any (joinK n A B) (n + m) cap'' ao' (by omega) W hk)
  have HS := Lib.hid (fun z y l c1 c2 bo co (W : World) hl h1 h2 => rsame_any z y l c1 l c2 bo co hl hl W h1 h2)
  have HCM : Hid (∀ W (p q : Key), p.n ≤ 1000000 → q.n ≤ 1000000 → IntsAt W p.ao p.n p.z → IntsAt W q.ao q.n q.z → Calls Try.prog 38 #[p.val, q.val] W (RetQ (.int .i64 (cmpK p q)) W)) := fun W p q hp hq i1 i2 => by
    have := refcmp_any p.z q.z p.n p.cap q.n q.cap p.ao q.ao hp hq W i1 i2
    rwa [cmpK_Z] at this
  obtain ⟨i0, hinf, hz0, hz1, hz2⟩ := info_parts infoK
  obtain ⟨j0, jnf, jz0, jz1, jz2⟩ := info_parts infoN'
  have n2 : (n : Int) ≤ 20 := by omega
  have m2 : (m : Int) ≤ 20 := by omega
  clear h1 h2 hr1 hr2 ha6 hb6 hao hbo hn hm
  go_enter Try.func12, Try.ntmps12
  go_wp2_with fail
  refine HF.out.mono ?_
  rintro e w1 ⟨rfl, b, rfl, hb⟩
  obtain rfl : b = true := hb.2 HFT.out
  clear hb
  go_wp2_with fail
  refine HG.out.mono ?_
  rintro e w1 ⟨rfl, b, rfl, hb⟩
  obtain rfl : b = true := hb.2 HGT.out
  clear hb HF HG HFT HGT
  go_wp2_with fail
  go_loopw [5, 6] (fun sv iv wr => ∃ t : Nat, t ≤ n ∧ iv = .int .i64 (t : Nat) ∧ OwnsV wr w.heap.size 22 sv t (fun t => (joinK n A B t).val) ∧ Below w.heap.size w wr) (fun _ iv _ => n - (intOf iv).toNat)
  case atStart => exact ⟨0, Nat.zero_le _, rfl, OwnsV.nil _ _ _ _, Below.refl _ _⟩
  case round =>
    obtain ⟨t, ht, rfl, hown, hbel⟩ := hrel
    have ht2 : (t : Int) ≤ n := by omega
    by_cases hlt : t < n
    · have hlt2 : (t : Int) < n := by omega
      have HL := Lib.hid hlt
      obtain ⟨bk, ok, rfl, hbk, hck⟩ := (HA.out wr hbel).2 (by omega)
      have c3 := hck t hlt
      obtain ⟨ua, un, uc, hu⟩ : ∃ ua un uc, Value.slice ua un uc = (A t).val := ⟨_, _, _, rfl⟩
      have HU : Hid (Value.slice ua un uc = (joinK n A B t).val) := by show _ = _; rw [hu, joinK_a hlt]
      rw [← hu] at c3
      clear hck hbk hu hlt
      go_wp2_with (at_builtin; refine wpList_append_own _ rfl _ _ 61 rfl w.heap.size 22 i0 (.slice none 0 0) 1 24 Try.underlying61 hinf hz0 hz1 hz2 rfl (by decide) _ _ _ rfl (hown.alloc _) ⟨wr.heap.size, 0, none⟩ 1 1 [.slice ua un uc] rfl rfl ?c1 ?c2 ?c3 ?c4 ?c5 ?_)
      case c1 =>
        intro j' u' hj'
        match j', hj' with
        | 0, hj' => simp at hj'; subst hj'; simp [Addr.add]
      case c2 => intro u' hu'; simp at hu'; subst hu'; rfl
      case c3 => unfold maxLen; omega
      case c4 => omega
      case c5 => have := hbel.size; simp; omega
      intro v' w6 hown' hgrow _
      have HOW2 : Hid (OwnsV w6 w.heap.size 22 v' (t + 1) (fun t => (joinK n A B t).val)) := OwnsV.next (by rw [← HU.out]; exact hown')
      have HBE2 : Hid (Below w.heap.size w w6) := (hbel.alloc hbel.size _).grown hgrow (by have := hbel.size; simp; omega) (fun k' hk' => (hown.lt k' hk').1)
      clear hown hown' hgrow hbel c3
      go_wp2
      go_roundw
      case rel => exact ⟨t + 1, HL.out, by go_num, HOW2.out, HBE2.out⟩
      case measure => have := HL.out; simp [intOf]; omega
    · obtain rfl : t = n := by omega
      have HOW := Lib.hid hown
      have HBE := Lib.hid hbel
      clear hown hbel hlt ht
      go_wp2_with fail
      obtain ⟨wo, hwo⟩ : ∃ x, x = wr := ⟨_, rfl⟩
      subst hwo
      go_loopw [5, 7] (fun sv iv wr => ∃ s : Nat, s ≤ m ∧ iv = .int .i64 (s : Nat) ∧ OwnsV wr w.heap.size 22 sv (t + s) (fun i => (joinK t A B i).val) ∧ Below w.heap.size w wr) (fun _ iv _ => m - (intOf iv).toNat)
      case atStart => exact ⟨0, Nat.zero_le _, rfl, HOW.out, HBE.out⟩
      case round =>
        clear HOW HBE
        obtain ⟨s, hs, rfl, hown, hbel⟩ := hrel
        have hs2 : (s : Int) ≤ m := by omega
        by_cases hlt : s < m
        · have hlt2 : (s : Int) < m := by omega
          have HL := Lib.hid hlt
          obtain ⟨bk, ok, rfl, hbk, hck⟩ := (HB.out wr hbel).2 (by omega)
          have c3 := hck s hlt
          obtain ⟨ua, un, uc, hu⟩ : ∃ ua un uc, Value.slice ua un uc = (B s).val := ⟨_, _, _, rfl⟩
          have HU : Hid (Value.slice ua un uc = (joinK t A B (t + s)).val) := by show _ = _; rw [hu, joinK_b]
          rw [← hu] at c3
          clear hck hbk hu hlt
          go_wp2_with (at_builtin; refine wpList_append_own _ rfl _ _ 61 rfl w.heap.size 22 i0 (.slice none 0 0) 1 24 Try.underlying61 hinf hz0 hz1 hz2 rfl (by decide) _ _ _ rfl (hown.alloc _) ⟨wr.heap.size, 0, none⟩ 1 1 [.slice ua un uc] rfl rfl ?d1 ?d2 ?d3 ?d4 ?d5 ?_)
          case d1 =>
            intro j' u' hj'
            match j', hj' with
            | 0, hj' => simp at hj'; subst hj'; simp [Addr.add]
          case d2 => intro u' hu'; simp at hu'; subst hu'; rfl
          case d3 => unfold maxLen; omega
          case d4 => omega
          case d5 => have := hbel.size; simp; omega
          intro v' w6 hown' hgrow _
          have HOW2 : Hid (OwnsV w6 w.heap.size 22 v' (t + (s + 1)) (fun i => (joinK t A B i).val)) := OwnsV.next (n := t + s) (by rw [← HU.out]; exact hown')
          have HBE2 : Hid (Below w.heap.size w w6) := (hbel.alloc hbel.size _).grown hgrow (by have := hbel.size; simp; omega) (fun k' hk' => (hown.lt k' hk').1)
          clear hown hown' hgrow hbel c3
          go_wp2
          go_roundw
          case rel => exact ⟨s + 1, HL.out, by go_num, HOW2.out, HBE2.out⟩
          case measure => have := HL.out; simp [intOf]; omega
        · obtain rfl : s = m := by omega
          obtain ⟨al, cl, rfl, hkeys⟩ := hown.keys (join_keys (HA.out wr hbel) (HB.out wr hbel))
          have HKW : Hid (∀ W, Below wr.heap.size wr W → KeysAt W al (t + s) (joinK t A B)) := fun W hb => hkeys.below hb
          have HBE := Lib.hid hbel
          clear hown hbel hlt hs hkeys
          go_wp2_with fail
          obtain ⟨N, hN⟩ : ∃ N, N = t + s := ⟨_, rfl⟩
          have HNN := Lib.hid hN
          have n3 : (N : Int) ≤ 40 := by omega
          have n4 : ((t + s : Nat) : Int) = (N : Nat) := by omega
          rw [← hN] at HKW HM HRO HRU ⊢
          obtain ⟨wo, hwo⟩ : ∃ x, x = wr := ⟨_, rfl⟩
          subst hwo
          clear hN n4
          go_loopw [8, 9] (fun sv iv wr => ∃ k : Nat, k ≤ N ∧ iv = .int .i64 (k : Nat) ∧ OwnsL wr wo.heap.size sv (runsL (joinK t A B) k) ∧ Below wo.heap.size wo wr) (fun _ iv _ => N - (intOf iv).toNat)
          case atStart => exact ⟨0, Nat.zero_le _, rfl, OwnsL.nil _ _, Below.refl _ _⟩
          case round =>
            obtain ⟨k, hk, rfl, hown, hbel⟩ := hrel
            have hk2 : (k : Int) ≤ N := by omega
            have hlen := runsL_len (joinK t A B) k
            by_cases hlt : k < N
            · have hlt2 : (k : Int) < N := by omega
              have HL := Lib.hid hlt
              rcases k with _ | j
              · have HOWo := Lib.hid hown
                have HBEo := Lib.hid hbel
                clear hlt hbel hown
                go_wp2_with fail
                go_quiet (fail)
                have hown : OwnsL (wr.drewN nq) wo.heap.size _ (runsL (joinK t A B) 0) := OwnsL.drewN HOWo.out nq
                have hbel := Below.drewN HBEo.out nq
                clear HOWo HBEo
                generalize wr.drewN nq = wr at *
                go_wp2_with (at_builtin; refine wpList_append_own _ rfl _ _ 63 rfl wo.heap.size 3 j0 (.int .i64 0) 1 8 Try.underlying63 jnf jz0 jz1 jz2 rfl (by decide) _ _ _ rfl (hown.alloc _) ⟨wr.heap.size, 0, none⟩ 1 1 [.int .i64 0] rfl rfl ?e1 ?e2 ?e3 ?e4 ?e5 ?_)
                case e1 =>
                  intro j' u' hj'
                  match j', hj' with
                  | 0, hj' => simp at hj'; subst hj'; simp [Addr.add]
                case e2 => intro u' hu'; simp at hu'; subst hu'; rfl
                case e3 => unfold maxLen; simp [runsL]
                case e4 => simp [runsL]
                case e5 => have := hbel.size; simp; omega
                intro v' w6 hown' hgrow _
                have HOW2 : Hid (OwnsL w6 wo.heap.size v' (runsL (joinK t A B) 1)) := OwnsL.next (L := []) (x := 0) hown'
                have HBE2 : Hid (Below wo.heap.size wo w6) := (hbel.alloc hbel.size _).grown hgrow (by have := hbel.size; simp; omega) (fun k' hk' => (hown.lt k' hk').1)
                clear hown hown' hgrow hbel
                go_wp2
                go_roundw
                case rel => exact ⟨1, HL.out, rfl, HOW2.out, HBE2.out⟩
                case measure => have := HL.out; simp [intOf]; omega
              · have hK := HKW.out wr hbel
                obtain ⟨bk, ok, rfl, hbk, hck⟩ := hK.2 (by omega)
                have c5 := hck j (by omega)
                have c6 := hck (j + 1) hlt
                have HCC : Hid (∀ q : Nat, Calls Try.prog 38 #[(joinK t A B j).val, (joinK t A B (j + 1)).val] (wr.drewN q) (fun e w' => e = .returned (.int .i64 (cmpK (joinK t A B j) (joinK t A B (j + 1)))) ∧ ∃ i, w' = (wr.drewN q).drewN i)) := fun q => by
                  have k1 := hK.1 j (by omega)
                  have k2 := hK.1 (j + 1) hlt
                  exact HCM.out (wr.drewN q) _ _ k1.1 k2.1 k1.2 k2.2
                have hj3 : (j : Int) + 1 < N := by omega
                have hj4 : (j : Int) < N := by omega
                have i1 : ((j : Int) + 1 - 1) = (j : Int) := by omega
                have i2 : ((j : Int) + 1 == 0) = false := by rw [beq_eq_false_iff_ne]; omega
                have hrl : runsL (joinK t A B) (j + 2) = if cmpK (joinK t A B j) (joinK t A B (j + 1)) = 0 then runsL (joinK t A B) (j + 1) else runsL (joinK t A B) (j + 1) ++ [j + 1] := rfl
                have hlen2 : (runsL (joinK t A B) (j + 1)).length ≤ 40 := by omega
                have HOWo := Lib.hid hown
                have HBEo := Lib.hid hbel
                clear hck hbk hK hlt hlen hown hbel
                by_cases hz : cmpK (joinK t A B j) (joinK t A B (j + 1)) = 0
                · rw [if_pos hz] at hrl
                  have HRL := Lib.hid hrl
                  rw [hz] at HCC
                  clear hrl hz hlen2
                  generalize (joinK t A B j).val = u at *
                  generalize (joinK t A B (j + 1)).val = v at *
                  go_wp2_with fail
                  go_quiet ((go_at_call 38; exact Calls.quiet_of (HCC.out _)))
                  go_wp2
                  go_roundw
                  case rel => exact ⟨j + 1 + 1, HL.out, by go_num, by rw [HRL.out]; exact OwnsL.drewN HOWo.out nq, Below.drewN HBEo.out nq⟩
                  case measure => have := HL.out; simp [intOf]; omega
                · rw [if_neg hz] at hrl
                  have HRL := Lib.hid hrl
                  obtain ⟨c, hcc⟩ : ∃ c, c = cmpK (joinK t A B j) (joinK t A B (j + 1)) := ⟨_, rfl⟩
                  rw [← hcc] at HCC hz
                  have d1 : (c != 0) = true := by simpa using hz
                  have d2 : (c == 0) = false := by simpa using hz
                  clear hrl hz hcc
                  generalize (joinK t A B j).val = u at *
                  generalize (joinK t A B (j + 1)).val = v at *
                  go_wp2_with fail
                  go_quiet ((go_at_call 38; exact Calls.quiet_of (HCC.out _)))
                  have hown : OwnsL (wr.drewN nq) wo.heap.size _ (runsL (joinK t A B) (j + 1)) := OwnsL.drewN HOWo.out nq
                  have hbel := Below.drewN HBEo.out nq
                  clear HOWo HBEo c5 c6 HCC
                  generalize wr.drewN nq = wr at *
                  go_wp2_with (at_builtin; refine wpList_append_own _ rfl _ _ 63 rfl wo.heap.size 3 j0 (.int .i64 0) 1 8 Try.underlying63 jnf jz0 jz1 jz2 rfl (by decide) _ _ _ rfl (hown.alloc _) ⟨wr.heap.size, 0, none⟩ 1 1 [.int .i64 ((j : Int) + 1)] rfl rfl ?f1 ?f2 ?f3 ?f4 ?f5 ?_)
                  case f1 =>
                    intro j' u' hj'
                    match j', hj' with
                    | 0, hj' => simp at hj'; subst hj'; simp [Addr.add]
                  case f2 => intro u' hu'; simp at hu'; subst hu'; rfl
                  case f3 => unfold maxLen; omega
                  case f4 => omega
                  case f5 => have := hbel.size; simp; omega
                  intro v' w6 hown' hgrow _
                  have HOW2 : Hid (OwnsL w6 wo.heap.size v' (runsL (joinK t A B) (j + 1) ++ [j + 1])) := OwnsL.next (x := j + 1) hown'
                  have HBE2 : Hid (Below wo.heap.size wo w6) := (hbel.alloc hbel.size _).grown hgrow (by have := hbel.size; simp; omega) (fun k' hk' => (hown.lt k' hk').1)
                  clear hown hown' hgrow hbel
                  go_wp2
                  go_roundw
                  case rel => exact ⟨j + 1 + 1, HL.out, by go_num, by rw [HRL.out]; exact HOW2.out, HBE2.out⟩
                  case measure => have := HL.out; simp [intOf]; omega
            · obtain rfl : k = N := by omega
              obtain ⟨ar, cr, rfl, hir⟩ := hown.view
              have HIR := Lib.hid hir
              have HB2 := Lib.hid hbel
              have HLEN := Lib.hid hlen
              clear hown hbel hir hlt hlen hk
              go_wp2_with fail
              refine (HX.out _).mono ?_
              rintro e w1 ⟨rfl, h1⟩
              have HB3 : Hid (Below wo.heap.size wo w1) := HB2.out.trans (h1.mono HB2.out.size)
              have HI3 := Lib.hid (HIR.out.below h1)
              have HW3 : Hid (Below w.heap.size w w1) := HBE.out.trans (HB3.out.mono HBE.out.size)
              clear h1
              go_wp2_with fail
              refine (HM.out w1 (HA.out _ HW3.out) (HB.out _ HW3.out)).mono ?_
              rintro e w2 ⟨h2, ro, rc, F, rfl, hF, hiF⟩
              have HB4 : Hid (Below wo.heap.size wo w2) := HB3.out.trans (h2.mono HB3.out.size)
              have HI4 := Lib.hid (HI3.out.below h2)
              have HFF := Lib.hid hF
              have HIF := Lib.hid hiF
              clear h2 hF hiF
              go_wp2_with fail
              refine (HRO.out al cl w2 (HKW.out _ HB4.out)).mono ?_
              rintro e w3 ⟨h3, g3, z3, hg3, rfl, hz, hi⟩
              have HB5 : Hid (Below wo.heap.size wo w3) := HB4.out.trans (h3.mono HB4.out.size)
              have HI5 := Lib.hid (HI4.out.below h3)
              have HIF5 := Lib.hid (HIF.out.below h3)
              have HZ3 := Lib.hid hz
              have HI33 := Lib.hid hi
              clear h3 hg3 hz hi
              go_wp2_with fail
              refine (HS.out _ _ _ _ _ _ _ _ (by omega) HIF5.out HI33.out).mono ?_
              rintro e w4 ⟨⟨q4, rfl⟩, b, rfl, hb⟩
              obtain rfl : b = true := hb.2 ⟨(by first | trivial | rfl), fun t ht => order_is HFF.out HZ3.out t ht⟩
              have HB6 : Hid (Below wo.heap.size wo (w3.drewN q4)) := Below.drewN HB5.out q4
              have HI6 : Hid (IntsAt (w3.drewN q4) ar (runsL (joinK t A B) k).length (fun i => (((runsL (joinK t A B) k)[i]?.getD 0 : Nat) : Int))) := HI5.out
              clear hb HI5 HIF5 HI33 HZ3
              generalize w3.drewN q4 = w4 at *
              go_wp2_with fail
              refine (HRU.out al cl w4 (HKW.out _ HB6.out)).mono ?_
              rintro e w5 ⟨v5, rfl, hown5, hbel5⟩
              obtain ⟨a5, c5, rfl, hi5⟩ := hown5.view
              have HB7 : Hid (Below wo.heap.size wo w5) := HB6.out.trans (hbel5.mono HB6.out.size)
              have HI7 := Lib.hid (HI6.out.below hbel5)
              have HI77 := Lib.hid hi5
              clear hown5 hbel5 hi5
              go_wp2_with fail
              refine (HS.out _ _ _ _ _ _ _ _ (by have := HLEN.out; omega) HI77.out HI7.out).mono ?_
              rintro e w6 ⟨⟨q6, rfl⟩, b, rfl, hb⟩
              obtain rfl : b = true := hb.2 ⟨(by first | trivial | rfl), fun _ _ => (by first | trivial | rfl)⟩
              have HB8 : Hid (Below wo.heap.size wo (w5.drewN q6)) := Below.drewN HB7.out q6
              clear hb
              generalize w5.drewN q6 = w6 at *
              go_wp2
              go_ret
              exact ⟨rfl, HBE.out.trans (HB8.out.mono HBE.out.size)⟩
end Go.Proofs.Ytncbieaobadekaa
