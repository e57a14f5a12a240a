/- Package rank: merged. -/
import Derived.Test.YtncbieaobadekaaRankMergeMath
import Derived.WalkMore
namespace Go.Proofs.Ytncbieaobadekaa
open Go.ChangeShapes Go.WideShapes Go.ChangeAt Go.RowKit
theorem infoN' : (Try.prog.info? 3).map (fun i => (i.zero, i.size, i.bytes)) = some (some (.int .i64 0), 1, 8) := by kernel_rfl
/-- A slice of the call's own that holds a list of numbers. -/
def OwnsL (w : World) (B : Nat) (v : Value) (L : List Nat) : Prop := w.ownsRow B 3 1 v L.length (L.map fun x : Nat => Value.int .i64 (x : Int))
theorem OwnsL.view {w : World} {B : Nat} {v : Value} {L : List Nat} (h : OwnsL w B v L) : ∃ ao cap, v = .slice ao L.length cap ∧ IntsAt w ao L.length (fun t => ((L[t]?.getD 0 : Nat) : Int)) := by
  rcases h.2 with ⟨rfl, hx⟩ | ⟨g, cap, cur, rfl, hB, hh, hr⟩
  · rw [hx]
    exact ⟨none, 0, rfl, fun hn => absurd hn (Nat.lt_irrefl 0)⟩
  · refine ⟨some ⟨g, 0, none⟩, cap, rfl, fun _ => ⟨g, 0, rfl, lt_of_block hh, fun i hi => ?_⟩⟩
    rw [Nat.zero_add, World.ownsRow.cellAt h i (by omega)]
    simp [hi]
theorem OwnsL.next {w : World} {B : Nat} {v : Value} {L : List Nat} {x : Nat} (h : w.ownsRow B 3 1 v (L.length + 1) ((L.map fun x : Nat => Value.int .i64 (x : Int)) ++ [.int .i64 (x : Int)])) : OwnsL w B v (L ++ [x]) := by
  unfold OwnsL
  rw [List.length_append, List.map_append]
  exact h
/-- A list of places that is the order of keys. -/
def OrderOf (K : Nat → Key) (n : Nat) (w : World) (e : Ending) (w' : World) : Prop :=
  Below w.heap.size w w' ∧ ∃ (ao : Option Addr) (cap : Nat) (f : Nat → Nat), e = .returned (.slice ao n cap) ∧ OrdF (ordLt K) n f ∧ IntsAt w' ao n (fun i => (f i : Nat))
set_option maxRecDepth 100000 in
set_option maxHeartbeats 8000000 in
theorem merged_any (A B : Nat → Key) (n m cap cap' : Nat) (ao bo : Option Addr) (hn : n ≤ 20) (hm : m ≤ 20) (ha : risesN A false n = true) (hb : risesN B false m = true) (w : World) (h1 : KeysAt w ao n A) (h2 : KeysAt w bo m B) :
    Calls Try.prog 73 #[.slice ao n cap, .slice bo m cap'] w (OrderOf (joinK n A B) (n + m) w) := by
  have HA : Hid (∀ W, Below w.heap.size w W → KeysAt W ao n A) := fun W hb => h1.below hb
  have HB : Hid (∀ W, Below w.heap.size w W → KeysAt W bo m B) := fun W hb => h2.below hb
  have HRA := Lib.hid ha
  have HRB := Lib.hid hb
  have HC : Hid (∀ W i k, i < n → k < m → Below w.heap.size w W → Calls Try.prog 37 #[(A i).val, (B k).val] W (RetS (.int .i64 (cmpK (A i) (B k))) W)) := fun W i k hi hk hb => by
    have p1 := (h1.below hb).1 i hi
    have p2 := (h2.below hb).1 k hk
    have := rcmp_any (A i).z (B k).z (A i).n (A i).cap (B k).n (B k).cap (A i).ao (B k).ao p1.1 p2.1 W p1.2 p2.2
    rwa [cmpK_Z] at this
  obtain ⟨i0, hinf, hz0, hz1, hz2⟩ := info_parts infoN'
  have n2 : (n : Int) ≤ 20 := by omega
  have m2 : (m : Int) ≤ 20 := by omega
  clear h1 h2 ha hb
  go_enter Try.func73, Try.ntmps73
  go_wp2_with fail
  go_step3
  go_wp2_with (at_make; refine wpList_make_own _ rfl _ _ 63 rfl w.heap.size 3 i0 (.int .i64 0) 1 Try.underlying63 hinf hz0 hz1 .i64 .i64 _ (n + m) rfl rfl (by first | rfl | omega) (by rw [hz2]; omega) (by unfold maxLen; omega) (Nat.le_refl _) ?_)
  intro w0 hown0 hgrow0
  have HOW0 : Hid (OwnsL w0 w.heap.size (.slice (some ⟨w.heap.size, 0, none⟩) 0 (n + m)) []) := hown0
  have HB0 : Hid (Below w.heap.size w w0) := (Below.refl _ _).grown hgrow0 (Nat.le_refl _) (fun k' hk' => by cases hk')
  clear hown0 hgrow0
  go_wp2_with fail
  go_step3
  go_wp2_with fail
  go_loopw [5, 6, 17] (fun sv kv iv wr => ∃ (i k : Nat) (L : List Nat), iv = .int .i64 (i : Nat) ∧ kv = .int .i64 (k : Nat) ∧ Merging n m A B i k L ∧ OwnsL wr w.heap.size sv L ∧ Below w.heap.size w wr) (fun _ _ iv _ => n - (intOf iv).toNat)
  case atStart => exact ⟨0, 0, [], rfl, rfl, Merging.start _ _ _ _, HOW0.out, HB0.out⟩
  case round =>
    clear HOW0 HB0
    obtain ⟨i, k, L, rfl, rfl, hmer, hown, hbel⟩ := hrel
    have hin := hmer.hi
    have hkm := hmer.hk
    have hi2 : (i : Int) ≤ n := by omega
    have hk2 : (k : Int) ≤ m := by omega
    by_cases hlt : i < n
    · have hlt2 : (i : Int) < n := by omega
      have HL := Lib.hid hlt
      obtain ⟨ba, oa, rfl, lba, hca⟩ := (HA.out wr hbel).2 (by omega)
      have c1 := hca i hlt
      have HMER := Lib.hid hmer
      have HOW := Lib.hid hown
      have HBE := Lib.hid hbel
      obtain ⟨ua, un, uc, hu⟩ : ∃ ua un uc, Value.slice ua un uc = (A i).val := ⟨_, _, _, rfl⟩
      have HU := Lib.hid hu
      rw [← hu] at c1
      clear hmer hown hbel hca lba hu hlt hin hkm
      go_wp2_with fail
      obtain ⟨wo, hwo⟩ : ∃ x, x = wr := ⟨_, rfl⟩
      subst hwo
      go_loopw [5, 6] (fun sv kv wr => ∃ (k : Nat) (L : List Nat), kv = .int .i64 (k : Nat) ∧ Merging n m A B i k L ∧ OwnsL wr w.heap.size sv L ∧ Below w.heap.size w wr) (fun _ kv _ => m - (intOf kv).toNat)
      case atStart => exact ⟨k, L, rfl, HMER.out, HOW.out, HBE.out⟩
      case round =>
        clear HMER HOW HBE c1
        obtain ⟨k, L, rfl, hmer, hown, hbel⟩ := hrel
        have hkm := hmer.hk
        have hk2 : (k : Int) ≤ m := by omega
        have hll := hmer.len
        by_cases hlk : k < m
        · have hlk2 : (k : Int) < m := by omega
          have HLK := Lib.hid hlk
          obtain ⟨bb, ob, rfl, lbb, hcb⟩ := (HB.out wr hbel).2 (by omega)
          have c2 := hcb k hlk
          have HCC := Lib.hid (HC.out wr i k HL.out hlk hbel)
          rw [← HU.out] at HCC
          have hlen : L.length ≤ 40 := by omega
          have HMER := Lib.hid hmer
          have hlk' : k < m := hlk
          clear hcb lbb hlk hmer hkm hll
          by_cases hc : cmpK (A i) (B k) ≤ 0
          · have HM2 := Lib.hid (HMER.out.left HRA.out HRB.out HL.out (fun _ => hc))
            obtain ⟨c, hcc⟩ : ∃ c, c = cmpK (A i) (B k) := ⟨_, rfl⟩
            rw [← hcc] at HCC hc
            have d1 : decide (c ≤ 0) = true := decide_eq_true hc
            clear hcc hc hlk'
            generalize (B k).val = v at *
            go_wp2_with fail
            refine HCC.out.mono ?_
            rintro e w1 ⟨rfl, rfl⟩
            go_wp2_with (at_builtin; refine wpList_append_own _ rfl _ _ 63 rfl w.heap.size 3 i0 (.int .i64 0) 1 8 Try.underlying63 hinf hz0 hz1 hz2 rfl (by decide) _ _ _ rfl (hown.alloc _) ⟨wr.heap.size, 0, none⟩ 1 1 [.int .i64 (i : Nat)] rfl rfl ?c1 ?c2 ?c3 ?c4 ?c5 ?_)
            case c1 =>
              intro j' u' hj'
              match j', hj' with
              | 0, hj' => simp at hj'; subst hj'; simp [Addr.add]
            case c2 => intro u' hu'; simp at hu'; subst hu'; rfl
            case c3 => unfold maxLen; omega
            case c4 => omega
            case c5 => have := hbel.size; simp; omega
            intro v' w6 hown' hgrow _
            have HOW2 : Hid (OwnsL w6 w.heap.size v' (L ++ [i])) := OwnsL.next hown'
            have HBE2 : Hid (Below w.heap.size w w6) := (hbel.alloc hbel.size _).grown hgrow (by have := hbel.size; simp; omega) (fun k' hk' => (hown.lt k' hk').1)
            clear hown hown' hgrow hbel
            go_wp2
            go_roundw
            case rel => exact ⟨i + 1, k, L ++ [i], by go_num, rfl, HM2.out, HOW2.out, HBE2.out⟩
            case measure => have := HL.out; simp [intOf]; omega
          · have HM2 := Lib.hid (HMER.out.right HRA.out HRB.out hlk' (fun _ => by omega))
            obtain ⟨c, hcc⟩ : ∃ c, c = cmpK (A i) (B k) := ⟨_, rfl⟩
            rw [← hcc] at HCC hc
            have d1 : decide (c ≤ 0) = false := decide_eq_false hc
            clear hcc hc hlk'
            generalize (B k).val = v at *
            go_wp2_with fail
            refine HCC.out.mono ?_
            rintro e w1 ⟨rfl, rfl⟩
            go_wp2_with (at_builtin; refine wpList_append_own _ rfl _ _ 63 rfl w.heap.size 3 i0 (.int .i64 0) 1 8 Try.underlying63 hinf hz0 hz1 hz2 rfl (by decide) _ _ _ rfl (hown.alloc _) ⟨wr.heap.size, 0, none⟩ 1 1 [.int .i64 ((n : Int) + (k : Int))] rfl rfl ?d1 ?d2 ?d3 ?d4 ?d5 ?_)
            case d1 =>
              intro j' u' hj'
              match j', hj' with
              | 0, hj' => simp at hj'; subst hj'; simp [Addr.add]
            case d2 => intro u' hu'; simp at hu'; subst hu'; rfl
            case d3 => unfold maxLen; omega
            case d4 => omega
            case d5 => have := hbel.size; simp; omega
            intro v' w6 hown' hgrow _
            have HOW2 : Hid (OwnsL w6 w.heap.size v' (L ++ [n + k])) := OwnsL.next (by rw [Int.natCast_add]; exact hown')
            have HBE2 : Hid (Below w.heap.size w w6) := (hbel.alloc hbel.size _).grown hgrow (by have := hbel.size; simp; omega) (fun k' hk' => (hown.lt k' hk').1)
            clear hown hown' hgrow hbel
            go_wp2
            go_roundw
            case rel => exact ⟨k + 1, L ++ [n + k], by go_num, HM2.out, HOW2.out, HBE2.out⟩
            case measure => have := HLK.out; simp [intOf]; omega
        · obtain rfl : k = m := by omega
          have hlen : L.length ≤ 40 := by omega
          have HM2 := Lib.hid (hmer.left HRA.out HRB.out HL.out (fun h => absurd h (Nat.lt_irrefl _)))
          clear hmer hlk hkm hll
          go_wp2_with (at_builtin; refine wpList_append_own _ rfl _ _ 63 rfl w.heap.size 3 i0 (.int .i64 0) 1 8 Try.underlying63 hinf hz0 hz1 hz2 rfl (by decide) _ _ _ rfl (hown.alloc _) ⟨wr.heap.size, 0, none⟩ 1 1 [.int .i64 (i : Nat)] rfl rfl ?e1 ?e2 ?e3 ?e4 ?e5 ?_)
          case e1 =>
            intro j' u' hj'
            match j', hj' with
            | 0, hj' => simp at hj'; subst hj'; simp [Addr.add]
          case e2 => intro u' hu'; simp at hu'; subst hu'; rfl
          case e3 => unfold maxLen; omega
          case e4 => omega
          case e5 => have := hbel.size; simp; omega
          intro v' w6 hown' hgrow _
          have HOW2 : Hid (OwnsL w6 w.heap.size v' (L ++ [i])) := OwnsL.next hown'
          have HBE2 : Hid (Below w.heap.size w w6) := (hbel.alloc hbel.size _).grown hgrow (by have := hbel.size; simp; omega) (fun k' hk' => (hown.lt k' hk').1)
          clear hown hown' hgrow hbel
          go_wp2
          go_roundw
          case rel => exact ⟨i + 1, k, L ++ [i], by go_num, rfl, HM2.out, HOW2.out, HBE2.out⟩
          case measure => have := HL.out; simp [intOf]; omega
    · obtain rfl : i = n := by omega
      have HMER := Lib.hid hmer
      have HOW := Lib.hid hown
      have HBE := Lib.hid hbel
      clear hmer hown hbel hlt hin hkm
      go_wp2_with fail
      obtain ⟨wo, hwo⟩ : ∃ x, x = wr := ⟨_, rfl⟩
      subst hwo
      go_loopw [5, 6] (fun sv kv wr => ∃ (k : Nat) (L : List Nat), kv = .int .i64 (k : Nat) ∧ Merging i m A B i k L ∧ OwnsL wr w.heap.size sv L ∧ Below w.heap.size w wr) (fun _ kv _ => m - (intOf kv).toNat)
      case atStart => exact ⟨k, L, rfl, HMER.out, HOW.out, HBE.out⟩
      case round =>
        clear HMER HOW HBE
        obtain ⟨k, L, rfl, hmer, hown, hbel⟩ := hrel
        have hkm := hmer.hk
        have hk2 : (k : Int) ≤ m := by omega
        have hll := hmer.len
        have hlen : L.length ≤ 40 := by omega
        by_cases hlk : k < m
        · have hlk2 : (k : Int) < m := by omega
          have HLK := Lib.hid hlk
          have HM2 := Lib.hid (hmer.right HRA.out HRB.out hlk (fun h => absurd h (Nat.lt_irrefl _)))
          clear hmer hlk hkm hll
          go_wp2_with (at_builtin; refine wpList_append_own _ rfl _ _ 63 rfl w.heap.size 3 i0 (.int .i64 0) 1 8 Try.underlying63 hinf hz0 hz1 hz2 rfl (by decide) _ _ _ rfl (hown.alloc _) ⟨wr.heap.size, 0, none⟩ 1 1 [.int .i64 ((i : Int) + (k : Int))] rfl rfl ?f1 ?f2 ?f3 ?f4 ?f5 ?_)
          case f1 =>
            intro j' u' hj'
            match j', hj' with
            | 0, hj' => simp at hj'; subst hj'; simp [Addr.add]
          case f2 => intro u' hu'; simp at hu'; subst hu'; rfl
          case f3 => unfold maxLen; omega
          case f4 => omega
          case f5 => have := hbel.size; simp; omega
          intro v' w6 hown' hgrow _
          have HOW2 : Hid (OwnsL w6 w.heap.size v' (L ++ [i + k])) := OwnsL.next (by rw [Int.natCast_add]; exact hown')
          have HBE2 : Hid (Below w.heap.size w w6) := (hbel.alloc hbel.size _).grown hgrow (by have := hbel.size; simp; omega) (fun k' hk' => (hown.lt k' hk').1)
          clear hown hown' hgrow hbel
          go_wp2
          go_roundw
          case rel => exact ⟨k + 1, L ++ [i + k], by go_num, HM2.out, HOW2.out, HBE2.out⟩
          case measure => have := HLK.out; simp [intOf]; omega
        · obtain rfl : k = m := by omega
          obtain ⟨ro, rc, rfl, hv⟩ := hown.view
          rw [hll] at hv ⊢
          have HV := Lib.hid hv
          have HBE := Lib.hid hbel
          have HOF := Lib.hid hmer.ends
          clear hmer hown hbel hv hlk hkm hll hlen
          go_wp2_with fail
          rw [Exit.noGoto_ret]
          go_ret
          exact ⟨HBE.out, ro, rc, _, rfl, HOF.out, HV.out⟩
end Go.Proofs.Ytncbieaobadekaa
