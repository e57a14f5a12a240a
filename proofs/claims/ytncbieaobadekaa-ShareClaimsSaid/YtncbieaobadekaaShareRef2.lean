/- The document's Apportion. -/
import Derived.Test.YtncbieaobadekaaShareRefM
import Derived.Test.YtncbieaobadekaaShareRef
namespace Go.Proofs.Ytncbieaobadekaa
open Go.ChangeShapes Go.WideShapes Go.ChangeAt Go.RowKit
theorem infoI' : (Try.prog.info? 2).map (fun i => (i.zero, i.size, i.bytes)) = some (some (.int .i64 0), 1, 8) := by kernel_rfl
theorem refapp_fail (t : Int) (x c : Int) (n cap : Nat) (ao : Option Addr) (hx : c = 1 ∨ c = 2) (w : World)
    (HW : Calls Try.prog 50 #[.int .i64 t, .slice ao n cap] w (RetS (.tuple #[.int .i64 x, .int .i64 c]) w)) :
    Calls Try.prog 15 #[.int .i64 t, .slice ao n cap] w (AppP c 0 (fun _ => 0) w) := by
  have H := Lib.hid HW
  clear HW
  rcases hx with rfl | rfl
  all_goals
    go_enter Try.func15, Try.ntmps15
    go_wp2_with fail
    refine H.out.mono ?_
    rintro e w1 ⟨rfl, rfl⟩
    go_wp2
    go_ret2
    exact ⟨Below.refl _ _, none, 0, rfl, fun h => absurd h (Nat.lt_irrefl 0)⟩
theorem refapp_rule (a n cap : Nat) (ao : Option Addr) (a0 : 0 < a) (w : World)
    (HW : Calls Try.prog 50 #[.int .i64 a, .slice ao n cap] w (RetS (.tuple #[.int .i64 0, .int .i64 0]) w)) :
    Calls Try.prog 15 #[.int .i64 a, .slice ao n cap] w (AppP 17 0 (fun _ => 0) w) := by
  have H := Lib.hid HW
  have d1 : decide ((0 : Int) < (a : Int)) = true := decide_eq_true (by omega)
  have d2 : decide (0 < a) = true := decide_eq_true a0
  clear HW a0
  go_enter Try.func15, Try.ntmps15
  go_wp2_with fail
  refine H.out.mono ?_
  rintro e w1 ⟨rfl, rfl⟩
  go_wp2
  go_ret2
  exact ⟨Below.refl _ _, none, 0, rfl, fun h => absurd h (Nat.lt_irrefl 0)⟩
/-- The two lists while they are made. -/
def Making (W : World) (B : Nat) (pv rv : Value) (k : Nat) (q r : Nat → Nat) : Prop :=
  OwnsV W B 2 pv k (fun i => .int .i64 (q i : Nat)) ∧ OwnsV W B 2 rv k (fun i => .int .i64 (r i : Nat)) ∧ Apart pv rv
set_option maxRecDepth 100000 in
set_option maxHeartbeats 8000000 in
theorem refapp_parts (a n cap : Nat) (y : Nat → Nat) (f' : Nat → Int) (ao : Option Addr) (hn : n ≤ 60) (ha : a ≤ 9223372036854775807) (hc : sN y n ≤ 9223372036854775807) (h0 : a = 0 ∨ (0 < sN y n ∧ FirstP a n y f')) (w : World) (h : IntsAt w ao n (fun i => (y i : Nat))) :
    Calls Try.prog 15 #[.int .i64 a, .slice ao n cap] w (AppP 0 n (if a = 0 then fun _ => 0 else portP a n y f') w) := by
  have HW : Hid (Calls Try.prog 50 #[.int .i64 a, .slice ao n cap] w (RetS (.tuple #[.int .i64 (sN y n : Nat), .int .i64 0]) w)) := by
    refine (wrong_any a (fun i => (y i : Nat)) n cap ao (by omega) (fun i hi => by have := sN_one y hi; omega) w h).mono ?_
    rintro e w' ⟨rfl, ⟨hbad, _⟩ | ⟨_, rfl⟩⟩
    · rcases hbad with hbad | ⟨i, hi, hbad⟩
      · omega
      · omega
    · rw [sumTo_nat, amt_in (by omega)]
      exact ⟨rfl, rfl⟩
  have HQ : Hid (0 < a → ∀ i, i < n → ∀ W : World, Calls Try.prog 51 #[.int .i64 a, .int .i64 (y i : Nat), .int .i64 (sN y n : Nat)] W (Ret (.tuple #[.int .i64 (qN a (sN y n) y i : Nat), .int .i64 (rN a (sN y n) y i : Nat)]) W)) := fun hp i hi W =>
    refquota_any a (y i) (sN y n) ha hc (sN_one y hi) (by rcases h0 with h | h; omega; exact h.1) W
  have HLQ : Hid (∀ k, k ≤ n → sN (qN a (sN y n) y) k ≤ a) := fun k hk => by
    rcases h0 with h | h
    · subst h
      have : ∀ k, sN (qN 0 (sN y n) y) k = 0 := fun k => by
        induction k with
        | zero => rfl
        | succ k ih => rw [sN, ih]; unfold qN; simp
      rw [this k]
      exact Nat.le_refl _
    · exact sN_left a n y h.1 k hk
  have HZQ : Hid (a = 0 → ∀ i, qN a (sN y n) y i = 0 ∧ rN a (sN y n) y i = 0) := fun e i => by
    subst e
    unfold qN rN
    simp
  have HFEW : Hid (0 < a → a - sN (qN a (sN y n) y) n < n) := fun hp => sN_few a n y (by rcases h0 with h | h; omega; exact h.1)
  have HFP : Hid (0 < a → FirstP a n y f') := fun hp => by rcases h0 with h | h; omega; exact h.2
  have HSP : Hid (0 < a → 0 < sN y n) := fun hp => by rcases h0 with h | h; omega; exact h.1
  have HI := Lib.hid h
  have HAM := Lib.hid ha
  have HP : Hid (∀ b, b = a → (if b = 0 then (fun _ => 0) else portP a n y f') = portP a n y f' ∨ (a = 0 ∧ (if b = 0 then (fun _ => 0) else portP a n y f') = fun _ => (0 : Int))) := fun b hb => by
    by_cases e : b = 0
    · rw [if_pos e]; exact Or.inr ⟨by omega, rfl⟩
    · rw [if_neg e]; exact Or.inl rfl
  obtain ⟨P, hP⟩ : ∃ P, P = (if a = 0 then (fun _ => 0) else portP a n y f') := ⟨_, rfl⟩
  have HPP : Hid ((0 < a → P = portP a n y f') ∧ (a = 0 → P = fun _ => 0)) := ⟨fun h => by rw [hP, if_neg (by omega)], fun h => by rw [hP, if_pos h]⟩
  rw [← hP]
  unfold FirstP at HFP
  unfold portP at HPP
  obtain ⟨q, hq⟩ : ∃ q, q = qN a (sN y n) y := ⟨_, rfl⟩
  obtain ⟨r, hr⟩ : ∃ r, r = rN a (sN y n) y := ⟨_, rfl⟩
  obtain ⟨c, hcc⟩ : ∃ c, c = sN y n := ⟨_, rfl⟩
  rw [← hq] at HQ HLQ HZQ HFEW HPP
  rw [← hr] at HQ HZQ HFP
  rw [← hcc] at HQ HW HSP
  have n2 : (n : Int) ≤ 60 := by omega
  obtain ⟨i0, hinf, hz0, hz1, hz2⟩ := info_parts infoI'
  clear h hn hq hr hcc hc h0 ha hP HP
  go_enter Try.func15, Try.ntmps15
  by_cases ha0 : a = 0
  · have HP0 := Lib.hid (HPP.out.2 ha0)
    subst ha0
    clear HQ HLQ HZQ HFEW HFP HSP HAM HPP
    by_cases hc0 : c = 0
    · have dc : ((c : Int) == 0) = true := by rw [beq_iff_eq]; omega
      clear hc0
      go_wp2_with fail
      refine HW.out.mono ?_
      rintro e w1 ⟨rfl, rfl⟩
      go_wp2_with fail
      go_loopw [8, 9, 10, 11] (fun pv rv lv iv wr => ∃ k : Nat, k ≤ n ∧ iv = .int .i64 (k : Nat) ∧ lv = .int .i64 0 ∧ Making wr w.heap.size pv rv k (fun _ => 0) (fun _ => 0) ∧ Below w.heap.size w wr) (fun _ _ _ iv _ => n - (intOf iv).toNat)
      case atStart => exact ⟨0, Nat.zero_le _, rfl, rfl, ⟨OwnsV.nil _ _ _ _, OwnsV.nil _ _ _ _, fun g hg => by cases hg⟩, Below.refl _ _⟩
      case round =>
        obtain ⟨k, hk, rfl, rfl, ⟨hp, hr, hap⟩, hbel⟩ := hrel
        have hk2 : (k : Int) ≤ n := by omega
        by_cases hlt : k < n
        · have hlt2 : (k : Int) < n := by omega
          have HL := Lib.hid hlt
          have HRW2 := Lib.hid hr
          have HAP := Lib.hid hap
          clear hr hap hlt
          go_wp2_with (at_builtin; refine wpList_append_near _ rfl _ _ 22 rfl w.heap.size 2 i0 (.int .i64 0) 8 Try.underlying22 hinf hz0 hz1 hz2 rfl _ k _ rfl (hp.alloc _) ⟨wr.heap.size, 0, none⟩ 1 (.int .i64 0) rfl ?a1 rfl ?a3 ?a4 ?a5 ?_)
          try (case a1 => rw [World.cell?_alloc_new]; rfl)
          case a3 => unfold maxLen; omega
          case a4 => omega
          case a5 => have := hbel.size; simp; omega
          intro pv3 w3 hown3 hgrow3 hnear3
          have HP3 : Hid (OwnsV w3 w.heap.size 2 pv3 (k + 1) (fun _ => .int .i64 ((0 : Nat) : Int))) := OwnsV.next hown3
          have hr : OwnsV w3 w.heap.size 2 _ k (fun _ => .int .i64 ((0 : Nat) : Int)) := owned_kept (HRW2.out.alloc _) hgrow3 HAP.out
          have HAP3 : Hid (Apart pv3 _) := Apart.near HAP.out hnear3 (HRW2.out.alloc _)
          have hbel3 : Below w.heap.size w w3 := (hbel.alloc hbel.size _).grown hgrow3 (by have := hbel.size; simp; omega) (fun k' hk' => (hp.lt k' hk').1)
          clear hown3 hgrow3 hnear3 hp HRW2 HAP hbel
          have hbel := hbel3
          clear hbel3
          go_wp2_with (at_builtin; refine wpList_append_near _ rfl _ _ 22 rfl w.heap.size 2 i0 (.int .i64 0) 8 Try.underlying22 hinf hz0 hz1 hz2 rfl _ k _ rfl (hr.alloc _) ⟨w3.heap.size, 0, none⟩ 1 (.int .i64 0) rfl ?b1 rfl ?b3 ?b4 ?b5 ?_)
          try (case b1 => rw [World.cell?_alloc_new]; rfl)
          case b3 => unfold maxLen; omega
          case b4 => omega
          case b5 => have := hbel.size; simp; omega
          intro rv4 w4 hown4 hgrow4 hnear4
          have HR4 : Hid (OwnsV w4 w.heap.size 2 rv4 (k + 1) (fun _ => .int .i64 ((0 : Nat) : Int))) := OwnsV.next hown4
          have HP4 : Hid (OwnsV w4 w.heap.size 2 pv3 (k + 1) (fun _ => .int .i64 ((0 : Nat) : Int))) := owned_kept (HP3.out.alloc _) hgrow4 HAP3.out.symm
          have HAP4 : Hid (Apart pv3 rv4) := (Apart.near HAP3.out.symm hnear4 (HP3.out.alloc _)).symm
          have HBE4 : Hid (Below w.heap.size w w4) := (hbel.alloc hbel.size _).grown hgrow4 (by have := hbel.size; simp; omega) (fun k' hk' => (hr.lt k' hk').1)
          clear hown4 hgrow4 hnear4 hr hbel HP3 HAP3
          go_wp2
          go_roundw
          case rel => exact ⟨k + 1, HL.out, by go_num, rfl, ⟨HP4.out, HR4.out, HAP4.out⟩, HBE4.out⟩
          case measure => have := HL.out; simp [intOf]; omega
        · obtain rfl : k = n := by omega
          obtain ⟨ro, rc, rfl, hv⟩ := hp.view
          have HV := Lib.hid hv
          have HBE := Lib.hid hbel
          clear hp hr hap hbel hv hlt hk
          go_wp2_with fail
          refine wp_loop_rounds 1 ?_
          rw [rounds_succ]
          go_wp2
          go_ret2
          refine ⟨HBE.out, ro, rc, rfl, fun hn => ?_⟩
          obtain ⟨b, e, _, hlt, hc⟩ := HV.out hn
          exact ⟨b, 0, e, hlt, fun i hi => by rw [Nat.zero_add, hc i hi, HP0.out]; rfl⟩
    · have dc : ((c : Int) == 0) = false := by rw [beq_eq_false_iff_ne]; omega
      clear hc0
      go_wp2_with fail
      refine HW.out.mono ?_
      rintro e w1 ⟨rfl, rfl⟩
      go_wp2_with fail
      go_loopw [8, 9, 10, 11] (fun pv rv lv iv wr => ∃ k : Nat, k ≤ n ∧ iv = .int .i64 (k : Nat) ∧ lv = .int .i64 0 ∧ Making wr w.heap.size pv rv k (fun _ => 0) (fun _ => 0) ∧ Below w.heap.size w wr) (fun _ _ _ iv _ => n - (intOf iv).toNat)
      case atStart => exact ⟨0, Nat.zero_le _, rfl, rfl, ⟨OwnsV.nil _ _ _ _, OwnsV.nil _ _ _ _, fun g hg => by cases hg⟩, Below.refl _ _⟩
      case round =>
        obtain ⟨k, hk, rfl, rfl, ⟨hp, hr, hap⟩, hbel⟩ := hrel
        have hk2 : (k : Int) ≤ n := by omega
        by_cases hlt : k < n
        · have hlt2 : (k : Int) < n := by omega
          have HL := Lib.hid hlt
          have HRW2 := Lib.hid hr
          have HAP := Lib.hid hap
          clear hr hap hlt
          go_wp2_with (at_builtin; refine wpList_append_near _ rfl _ _ 22 rfl w.heap.size 2 i0 (.int .i64 0) 8 Try.underlying22 hinf hz0 hz1 hz2 rfl _ k _ rfl (hp.alloc _) ⟨wr.heap.size, 0, none⟩ 1 (.int .i64 0) rfl ?g1 rfl ?g3 ?g4 ?g5 ?_)
          try (case g1 => rw [World.cell?_alloc_new]; rfl)
          case g3 => unfold maxLen; omega
          case g4 => omega
          case g5 => have := hbel.size; simp; omega
          intro pv3 w3 hown3 hgrow3 hnear3
          have HP3 : Hid (OwnsV w3 w.heap.size 2 pv3 (k + 1) (fun _ => .int .i64 ((0 : Nat) : Int))) := OwnsV.next hown3
          have hr : OwnsV w3 w.heap.size 2 _ k (fun _ => .int .i64 ((0 : Nat) : Int)) := owned_kept (HRW2.out.alloc _) hgrow3 HAP.out
          have HAP3 : Hid (Apart pv3 _) := Apart.near HAP.out hnear3 (HRW2.out.alloc _)
          have hbel3 : Below w.heap.size w w3 := (hbel.alloc hbel.size _).grown hgrow3 (by have := hbel.size; simp; omega) (fun k' hk' => (hp.lt k' hk').1)
          clear hown3 hgrow3 hnear3 hp HRW2 HAP hbel
          have hbel := hbel3
          clear hbel3
          go_wp2_with (at_builtin; refine wpList_append_near _ rfl _ _ 22 rfl w.heap.size 2 i0 (.int .i64 0) 8 Try.underlying22 hinf hz0 hz1 hz2 rfl _ k _ rfl (hr.alloc _) ⟨w3.heap.size, 0, none⟩ 1 (.int .i64 0) rfl ?h1 rfl ?h3 ?h4 ?h5 ?_)
          try (case h1 => rw [World.cell?_alloc_new]; rfl)
          case h3 => unfold maxLen; omega
          case h4 => omega
          case h5 => have := hbel.size; simp; omega
          intro rv4 w4 hown4 hgrow4 hnear4
          have HR4 : Hid (OwnsV w4 w.heap.size 2 rv4 (k + 1) (fun _ => .int .i64 ((0 : Nat) : Int))) := OwnsV.next hown4
          have HP4 : Hid (OwnsV w4 w.heap.size 2 pv3 (k + 1) (fun _ => .int .i64 ((0 : Nat) : Int))) := owned_kept (HP3.out.alloc _) hgrow4 HAP3.out.symm
          have HAP4 : Hid (Apart pv3 rv4) := (Apart.near HAP3.out.symm hnear4 (HP3.out.alloc _)).symm
          have HBE4 : Hid (Below w.heap.size w w4) := (hbel.alloc hbel.size _).grown hgrow4 (by have := hbel.size; simp; omega) (fun k' hk' => (hr.lt k' hk').1)
          clear hown4 hgrow4 hnear4 hr hbel HP3 HAP3
          go_wp2
          go_roundw
          case rel => exact ⟨k + 1, HL.out, by go_num, rfl, ⟨HP4.out, HR4.out, HAP4.out⟩, HBE4.out⟩
          case measure => have := HL.out; simp [intOf]; omega
        · obtain rfl : k = n := by omega
          obtain ⟨ro, rc, rfl, hv⟩ := hp.view
          have HV := Lib.hid hv
          have HBE := Lib.hid hbel
          clear hp hr hap hbel hv hlt hk
          go_wp2_with fail
          refine wp_loop_rounds 1 ?_
          rw [rounds_succ]
          go_wp2
          go_ret2
          refine ⟨HBE.out, ro, rc, rfl, fun hn => ?_⟩
          obtain ⟨b, e, _, hlt, hc⟩ := HV.out hn
          exact ⟨b, 0, e, hlt, fun i hi => by rw [Nat.zero_add, hc i hi, HP0.out]; rfl⟩
  · have da : decide ((0 : Int) < (a : Int)) = true := decide_eq_true (by omega)
    have da2 : decide (0 < a) = true := decide_eq_true (by omega)
    have dc : ((c : Int) == 0) = false := by rw [beq_eq_false_iff_ne]; have := HSP.out (by omega); omega
    have HA0 : Hid (0 < a) := by show 0 < a; omega
    clear ha0
    go_wp2_with fail
    refine HW.out.mono ?_
    rintro e w1 ⟨rfl, rfl⟩
    go_wp2_with fail
    go_loopw [8, 9, 10, 11] (fun pv rv lv iv wr => ∃ k : Nat, k ≤ n ∧ iv = .int .i64 (k : Nat) ∧ lv = .int .i64 (a - sN q k : Nat) ∧ Making wr w.heap.size pv rv k q r ∧ Below w.heap.size w wr) (fun _ _ _ iv _ => n - (intOf iv).toNat)
    case atStart => exact ⟨0, Nat.zero_le _, rfl, rfl, ⟨OwnsV.nil _ _ _ _, OwnsV.nil _ _ _ _, fun g hg => by cases hg⟩, Below.refl _ _⟩
    case round =>
      obtain ⟨k, hk, rfl, rfl, ⟨hp, hr, hap⟩, hbel⟩ := hrel
      have hk2 : (k : Int) ≤ n := by omega
      by_cases hlt : k < n
      · have hlt2 : (k : Int) < n := by omega
        have HL := Lib.hid hlt
        obtain ⟨b, off, rfl, hb, hcl⟩ := HI.out (by omega)
        have c1 := (hbel.cell (by exact hb)).trans (hcl k hlt)
        have HQK := Lib.hid (HQ.out HA0.out k hlt)
        have hql := HLQ.out (k + 1) hlt
        have hqe : sN q (k + 1) = sN q k + q k := rfl
        obtain ⟨l, hl⟩ : ∃ l, l = a - sN q k := ⟨_, rfl⟩
        have hl2 : a - sN q (k + 1) = l - q k := by omega
        have hl3 : q k ≤ l := by omega
        have hl4 : (l : Int) ≤ 9223372036854775807 := by have := HAM.out; omega
        have hl5 : (q k : Int) ≤ l := by omega
        rw [← hl]
        have HL2 := Lib.hid hl2
        have HPW := Lib.hid hp
        have HRW := Lib.hid hr
        have HAP := Lib.hid hap
        have HBE := Lib.hid hbel
        obtain ⟨x, hx⟩ : ∃ x, q k = x := ⟨_, rfl⟩
        obtain ⟨u, hu⟩ : ∃ u, r k = u := ⟨_, rfl⟩
        rw [hx, hu] at HQK
        rw [hx] at hl3 hl5 HL2
        have HX := Lib.hid hx
        have HU := Lib.hid hu
        clear hp hr hap hbel hcl hb hql hqe hl hl2 hx hu hlt
        go_wp2_with fail
        refine (HQK.out _).mono ?_
        rintro e w2 ⟨rfl, h2⟩
        have hbel : Below w.heap.size w w2 := HBE.out.trans (h2.mono HBE.out.size)
        have hp : OwnsV w2 w.heap.size 2 _ k (fun i => .int .i64 (q i : Nat)) := owned_kept (pv := .slice none 0 0) HPW.out ⟨h2.os, h2.tape, h2.output, h2.size, fun k hk _ => h2.block k hk⟩ (fun g hg => by cases hg)
        have HRW2 : Hid (OwnsV w2 w.heap.size 2 _ k (fun i => .int .i64 (r i : Nat))) := owned_kept (pv := .slice none 0 0) HRW.out ⟨h2.os, h2.tape, h2.output, h2.size, fun k hk _ => h2.block k hk⟩ (fun g hg => by cases hg)
        clear HPW HRW HBE h2 c1
        go_wp2_with (at_builtin; refine wpList_append_near _ rfl _ _ 22 rfl w.heap.size 2 i0 (.int .i64 0) 8 Try.underlying22 hinf hz0 hz1 hz2 rfl _ k _ rfl (hp.alloc _) ⟨w2.heap.size, 0, none⟩ 1 (.int .i64 (x : Nat)) rfl ?c1 rfl ?c3 ?c4 ?c5 ?_)
        try (case c1 => rw [World.cell?_alloc_new]; rfl)
        case c3 => unfold maxLen; omega
        case c4 => omega
        case c5 => have := hbel.size; simp; omega
        intro pv3 w3 hown3 hgrow3 hnear3
        have HP3 : Hid (OwnsV w3 w.heap.size 2 pv3 (k + 1) (fun i => .int .i64 (q i : Nat))) := OwnsV.next (by rw [HX.out]; exact hown3)
        have hr : OwnsV w3 w.heap.size 2 _ k (fun i => .int .i64 (r i : Nat)) := owned_kept (HRW2.out.alloc _) hgrow3 HAP.out
        have HAP3 : Hid (Apart pv3 _) := Apart.near HAP.out hnear3 (HRW2.out.alloc _)
        have hbel3 : Below w.heap.size w w3 := (hbel.alloc hbel.size _).grown hgrow3 (by have := hbel.size; simp; omega) (fun k' hk' => (hp.lt k' hk').1)
        clear hown3 hgrow3 hnear3 hp HRW2 HAP hbel
        have hbel := hbel3
        clear hbel3
        go_wp2_with (at_builtin; refine wpList_append_near _ rfl _ _ 22 rfl w.heap.size 2 i0 (.int .i64 0) 8 Try.underlying22 hinf hz0 hz1 hz2 rfl _ k _ rfl (hr.alloc _) ⟨w3.heap.size, 0, none⟩ 1 (.int .i64 (u : Nat)) rfl ?d1 rfl ?d3 ?d4 ?d5 ?_)
        try (case d1 => rw [World.cell?_alloc_new]; rfl)
        case d3 => unfold maxLen; omega
        case d4 => omega
        case d5 => have := hbel.size; simp; omega
        intro rv4 w4 hown4 hgrow4 hnear4
        have HR4 : Hid (OwnsV w4 w.heap.size 2 rv4 (k + 1) (fun i => .int .i64 (r i : Nat))) := OwnsV.next (by rw [HU.out]; exact hown4)
        have HP4 : Hid (OwnsV w4 w.heap.size 2 pv3 (k + 1) (fun i => .int .i64 (q i : Nat))) := owned_kept (HP3.out.alloc _) hgrow4 HAP3.out.symm
        have HAP4 : Hid (Apart pv3 rv4) := (Apart.near HAP3.out.symm hnear4 (HP3.out.alloc _)).symm
        have HBE4 : Hid (Below w.heap.size w w4) := (hbel.alloc hbel.size _).grown hgrow4 (by have := hbel.size; simp; omega) (fun k' hk' => (hr.lt k' hk').1)
        clear hown4 hgrow4 hnear4 hr hbel HP3 HAP3
        go_wp2
        go_roundw
        case rel => exact ⟨k + 1, HL.out, by go_num, by rw [HL2.out]; congr 1; omega, ⟨HP4.out, HR4.out, HAP4.out⟩, HBE4.out⟩
        case measure => have := HL.out; simp [intOf]; omega
      · obtain rfl : k = n := by omega
        obtain ⟨l, hl⟩ : ∃ l, l = a - sN q k := ⟨_, rfl⟩
        rw [← hl] at HFEW HPP ⊢
        have hln := HFEW.out HA0.out
        have HLN := Lib.hid hln
        obtain ⟨HF1, HF2⟩ : Hid (SortedOn (ltK (restK (fun i => (r i : Nat)))) f' 0 k) ∧ Hid (Same 0 k (fun i => (i : Int)) f') := ⟨(HFP.out HA0.out).1, (HFP.out HA0.out).2⟩
        have HQS : Hid (∀ i, i < k → 0 < l → (q i : Int) + 1 ≤ 9223372036854775807) := fun i hi h0 => by
          have h1 := sN_one q hi
          have h2 := HLQ.out k (Nat.le_refl _)
          have h3 := HAM.out
          omega
        have HLL := Lib.hid hl
        have HPE := Lib.hid (HPP.out.1 HA0.out)
        have hl2 : (l : Int) ≤ 60 := by omega
        have HP0 : Hid (OwnsV wr w.heap.size 2 _ k (fun i => .int .i64 ((q i : Int) + upN f' 0 i))) := OwnsV.congr hp (fun i _ => by rw [upN, Int.add_zero])
        have HR0 : Hid (OwnsV wr w.heap.size 2 _ k (fun i => .int .i64 (leftR r f' 0 i))) := OwnsV.congr hr (fun i _ => by rw [leftR_zero])
        have HAP := Lib.hid hap
        have HBE := Lib.hid hbel
        clear hp hr hap hbel hlt hk hln hl HW HQ HLQ HZQ HFEW HFP HSP HAM HPP HI
        go_wp2_with fail
        obtain ⟨wo, hwo⟩ : ∃ x, x = wr := ⟨_, rfl⟩
        subst hwo
        go_loopw [10] (fun lv wr => ∃ j : Nat, j ≤ l ∧ lv = .int .i64 (l - j : Nat) ∧ OwnsV wr w.heap.size 2 _ k (fun i => .int .i64 ((q i : Int) + upN f' j i)) ∧ OwnsV wr w.heap.size 2 _ k (fun i => .int .i64 (leftR r f' j i)) ∧ Below w.heap.size w wr) (fun lv _ => (intOf lv).toNat)
        case atStart => exact ⟨0, Nat.zero_le _, rfl, HP0.out, HR0.out, HBE.out⟩
        case round =>
          clear HP0 HR0 HBE
          obtain ⟨j, hj, rfl, hp, hr, hbel⟩ := hrel
          have hj2 : (j : Int) ≤ l := by omega
          by_cases hlt : j < l
          · have hjk : j < k := by have := HLN.out; omega
            obtain ⟨m, hm⟩ : ∃ m, m = l - j := ⟨_, rfl⟩
            have HM := Lib.hid hm
            have hm0 : 0 < m := by omega
            have dm : decide ((0 : Int) < (m : Int)) = true := decide_eq_true (by omega)
            have dm2 : decide (0 < m) = true := decide_eq_true hm0
            have hm60 : (m : Int) ≤ 60 := by omega
            rw [← hm]
            have hk0 : 0 < k := by omega
            obtain ⟨g1, cp1, rfl, _, hg1⟩ := OwnsV.some hp hk0
            obtain ⟨g2, cp2, rfl, _, hg2⟩ := OwnsV.some hr hk0
            have hne : g1 ≠ g2 := fun e => HAP.out g1 rfl (by rw [e]; rfl)
            have HNE := Lib.hid hne
            have HJ : Hid (j < l ∧ j < k) := ⟨hlt, hjk⟩
            have HPW := Lib.hid hp
            have HRW := Lib.hid hr
            have HBE := Lib.hid hbel
            have hk0i : (0 : Int) < k := by omega
            clear hp hr hbel hm hg1 hg2 hne hlt hjk hm0 hj
            go_wp2_with fail
            obtain ⟨wj, hwj⟩ : ∃ x, x = wr := ⟨_, rfl⟩
            subst hwj
            go_loopw [14, 15] (fun bv kv wr => ∃ i b : Nat, i ≤ k ∧ b < k ∧ kv = .int .i64 (i : Nat) ∧ bv = .int .i64 (b : Nat) ∧ Best (leftR r f' j) i b ∧ ∃ q', wr = wj.drewN q') (fun _ kv _ => k - (intOf kv).toNat)
            case atStart => exact ⟨0, 0, Nat.zero_le _, hk0, rfl, rfl, ⟨fun i hi => absurd hi (Nat.not_lt_zero _), fun i hi => absurd hi (Nat.not_lt_zero _)⟩, 0, rfl⟩
            case round =>
              obtain ⟨i, b, hi, hb, rfl, rfl, hbest, hq⟩ := hrel
              have HQ' := Lib.hid hq
              have HBest := Lib.hid hbest
              have hi2 : (i : Int) ≤ k := by omega
              have hb2 : (b : Int) < k := by omega
              by_cases hik : i < k
              · have hik2 : (i : Int) < k := by omega
                have HIK : Hid (i < k ∧ b < k) := ⟨hik, hb⟩
                have c1 : wr.cell? ⟨g2, i, none⟩ = some (.int .i64 (leftR r f' j i)) := by
                  obtain ⟨q', rfl⟩ := hq
                  exact OwnsV.cell HRW.out i hik
                have c2 : wr.cell? ⟨g2, b, none⟩ = some (.int .i64 (leftR r f' j b)) := by
                  obtain ⟨q', rfl⟩ := hq
                  exact OwnsV.cell HRW.out b hb
                clear hq hbest hik hb
                by_cases hR : leftR r f' j b < leftR r f' j i
                · have HB2 := Lib.hid (HBest.out.next_yes hR)
                  obtain ⟨x, hx⟩ : ∃ x, x = leftR r f' j i := ⟨_, rfl⟩
                  obtain ⟨u, hu⟩ : ∃ u, u = leftR r f' j b := ⟨_, rfl⟩
                  rw [← hx] at c1 hR
                  rw [← hu] at c2 hR
                  have d1 : decide (u < x) = true := decide_eq_true hR
                  clear hx hu hR
                  go_wp2_with fail
                  go_quiet (fail)
                  go_wp2
                  go_roundw
                  case rel => exact ⟨i + 1, i, HIK.out.1, HIK.out.1, by go_num, rfl, HB2.out, by
                    obtain ⟨q', e⟩ := HQ'.out
                    exact ⟨q' + nq, by rw [e, World.drewN_drewN]⟩⟩
                  case measure => have := HIK.out.1; simp [intOf]; omega
                · have HB2 := Lib.hid (HBest.out.next_no hR)
                  obtain ⟨x, hx⟩ : ∃ x, x = leftR r f' j i := ⟨_, rfl⟩
                  obtain ⟨u, hu⟩ : ∃ u, u = leftR r f' j b := ⟨_, rfl⟩
                  rw [← hx] at c1 hR
                  rw [← hu] at c2 hR
                  have d1 : decide (u < x) = false := decide_eq_false hR
                  clear hx hu hR
                  go_wp2_with fail
                  go_quiet (fail)
                  go_wp2
                  go_roundw
                  case rel => exact ⟨i + 1, b, HIK.out.1, HIK.out.2, by go_num, rfl, HB2.out, by
                    obtain ⟨q', e⟩ := HQ'.out
                    exact ⟨q' + nq, by rw [e, World.drewN_drewN]⟩⟩
                  case measure => have := HIK.out.1; simp [intOf]; omega
              · obtain rfl : i = k := by omega
                have hfb := Best.is HF1.out HF2.out HJ.out.2 hb hbest
                have HFB := Lib.hid hfb
                have hz : upN f' j b = 0 := upN_zero f' b j fun t ht e => lt_distinct HF1.out ht HJ.out.2 (by rw [e]; exact hfb.symm)
                have HZ := Lib.hid hz
                have hqb := HQS.out b hb (by have := HJ.out.1; omega)
                obtain ⟨HPj, HRj, HBj⟩ : Hid (OwnsV wr w.heap.size 2 (.slice (some ⟨g1, 0, none⟩) i cp1) i (fun i => .int .i64 ((q i : Int) + upN f' j i))) ∧ Hid (OwnsV wr w.heap.size 2 (.slice (some ⟨g2, 0, none⟩) i cp2) i (fun i => .int .i64 (leftR r f' j i))) ∧ Hid (Below w.heap.size w wr) := by
                  obtain ⟨q', rfl⟩ := hq
                  exact ⟨HPW.out, HRW.out, ⟨HBE.out.os, HBE.out.tape, HBE.out.output, HBE.out.size, HBE.out.block⟩⟩
                have c1 := OwnsV.cell HPj.out b hb
                rw [hz, Int.add_zero] at c1
                have e1 := OwnsV.free HPj.out b
                have e2 := OwnsV.free HRj.out b
                have c2 := OwnsV.cell HRj.out b hb
                obtain ⟨x, hx⟩ : ∃ x, x = q b := ⟨_, rfl⟩
                have HX := Lib.hid hx
                rw [← hx] at c1 hqb
                have hne := HNE.out
                have hgb1 := World.ownsRow.lt HPj.out g1 rfl
                have hgb2 := World.ownsRow.lt HRj.out g2 rfl
                have HG : Hid (w.heap.size ≤ g1 ∧ w.heap.size ≤ g2) := ⟨hgb1.1, hgb2.1⟩
                obtain ⟨u, hu⟩ : ∃ u, u = leftR r f' j b := ⟨_, rfl⟩
                rw [← hu] at c2
                clear hq hbest hfb hz hx hu hik hb HPW HRW HBE hgb1 hgb2
                go_wp2
                go_roundw
                case rel =>
                  refine ⟨j + 1, HJ.out.1, ?_, ?_, ?_, ?_⟩
                  · have := HJ.out.1
                    have hmm := HM.out
                    first | (congr 1; omega) | go_num
                  · refine OwnsV.congr (OwnsV.other (OwnsV.store HPj.out b (.int .i64 ((x : Int) + 1))) (fun e => HNE.out (by injection e)) b (.int .i64 (-1))) fun t _ => ?_
                    unfold putV
                    rw [upN, HFB.out]
                    by_cases htb : t = b
                    · rw [if_pos htb, if_pos (by rw [htb]), htb, HX.out]
                    · rw [if_neg htb, if_neg (show ¬ (b : Int) = (t : Int) by omega)]
                  · refine OwnsV.congr (OwnsV.store (OwnsV.other HRj.out (fun e => HNE.out (by injection e with e; exact e.symm)) b (.int .i64 ((x : Int) + 1))) b (.int .i64 (-1))) fun t _ => ?_
                    unfold putV
                    rw [leftR_next r f' j b t HFB.out]
                    by_cases htb : t = b
                    · rw [if_pos htb, if_pos htb]
                    · rw [if_neg htb, if_neg htb]
                  · exact (HBj.out.setCell HG.out.1 _).setCell HG.out.2 _
                case measure => have := HJ.out.1; have hmm := HM.out; simp [intOf]; omega
          · obtain rfl : j = l := by omega
            have e0 : j - j = 0 := Nat.sub_self j
            rw [e0]
            obtain ⟨ro, rc, rfl, hv⟩ := hp.view
            have HV := Lib.hid hv
            have HBE := Lib.hid hbel
            clear hp hr hbel hv hlt hj e0
            go_wp2
            go_ret2
            refine ⟨HBE.out, ro, rc, rfl, fun hn => ?_⟩
            obtain ⟨b, e, _, hlt, hc⟩ := HV.out hn
            exact ⟨b, 0, e, hlt, fun i hi => by rw [Nat.zero_add, hc i hi, HPE.out]⟩
end Go.Proofs.Ytncbieaobadekaa
