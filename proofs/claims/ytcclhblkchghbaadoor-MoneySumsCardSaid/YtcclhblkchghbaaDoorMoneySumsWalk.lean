/- The law MoneySums answers true, for every slice of amounts. -/
import Derived.Test.YtcclhblkchghbaaDoorMoneySumV
import Derived.Test.YtcclhblkchghbaaDoorMoneyAddsWalk
namespace Go.Proofs.YtcclhblkchghbaaDoor
open Go.ChangeShapes Go.WideShapes Go.ChangeAt Go.RowKit
theorem Tryd.infoI : (Tryd.prog.info? 2).map (fun i => (i.zero, i.size, i.bytes)) = some (some (.int .i64 0), 1, 8) := by kernel_rfl
set_option maxHeartbeats 400000 in
theorem sums_long (ao : Option Addr) (n cap : Nat) (at_ : Int) (h : 200 < n) (hm : n ≤ 9223372036854775807) (w : World) (ht : Tab w) :
    Calls Tryd.prog 5 #[.slice ao n cap, .int .u8 at_] w (Ret (.bool true) w) := by
  have HX := Lib.hid (awake_any w ht)
  have h1 : (200 : Int) < n := by omega
  clear ht h hm
  go_enter Tryd.func5, Tryd.ntmps5
  go_wp2_with fail
  refine HX.out.mono ?_
  rintro e w1 ⟨rfl, h1⟩
  go_wp2
  go_ret
  exact ⟨rfl, h1⟩
set_option maxRecDepth 100000 in
set_option maxHeartbeats 4000000 in
theorem sums_short (z : Nat → Int) (ao : Option Addr) (n cap : Nat) (a : Nat) (ha : (a : Int) ≤ 255) (h : n ≤ 200) (hz : ∀ i, i < n → -9223372036854775808 ≤ z i ∧ z i ≤ 9223372036854775807) (w : World) (hI : IntsAt w ao n z) (ht : Tab w) :
    Calls Tryd.prog 5 #[.slice ao n cap, .int .u8 a] w (Ret (.bool true) w) := by
  obtain ⟨s, e, hs⟩ := amt_form (sumTo z n)
  have HM := Lib.hid (fun (w : World) h => msumV z n cap ao (by omega) hz w h)
  have HR := Lib.hid (fun (w : World) h => refsumV z n cap ao (by omega) hz w h)
  have HX := Lib.hid (fun (w : World) h => awake_any w h)
  have HT := Lib.hid ht
  have HI := Lib.hid hI
  obtain ⟨k, hk⟩ : ∃ k, k = a % (n + 1) := ⟨_, rfl⟩
  have hkn : k ≤ n := by have := Nat.mod_lt a (show 0 < n + 1 by omega); omega
  have HK : Hid (((a : Int) % ((n : Int) + 1)) = ((k : Nat) : Int)) := by
    show _ = _
    rw [hk]
    simp
  have hy : ∀ i, i < n → -9223372036854775808 ≤ turnedZ z n k i ∧ turnedZ z n k i ≤ 9223372036854775807 := fun i hi => by
    unfold turnedZ
    split
    · exact hz _ (by omega)
    · exact hz _ (by omega)
  have HY := Lib.hid (fun (w : World) ao cap h => msumV (turnedZ z n k) n cap ao (by omega) hy w h)
  rw [sumTo_turned z n k hkn, hs] at HY
  rw [hs] at HM HR
  have hn2 : (n : Int) ≤ 200 := by omega
  obtain ⟨i0, hinf, hz0, hz1, hz2⟩ := info_parts Tryd.infoI
  clear hs hz ht hI hy hk h
  go_enter Tryd.func5, Tryd.ntmps5
  go_wp2_with fail
  refine (HM.out _ HI.out).mono ?_
  rintro x w1 ⟨rfl, h1⟩
  have H1 := Lib.hid h1
  clear h1
  go_wp2_with fail
  refine (HR.out _ (HI.out.below H1.out)).mono ?_
  rintro x w2 ⟨rfl, rfl⟩
  go_upto_region 6 with (fail)
  rw [HK.out]
  go_wp2_with fail
  have hA : ∀ wr : World, Below w.heap.size w wr → ∀ q, q < n → ∃ b off, ao = some ⟨b, off, none⟩ ∧ wr.cell? ⟨b, off + q, none⟩ = some (.int .i64 (z q)) := fun wr hb q hq => by
    obtain ⟨b, off, e, hlt, hc⟩ := HI.out (by omega)
    exact ⟨b, off, e, (hb.cell (by exact hlt)).trans (hc q hq)⟩
  have HA := Lib.hid hA
  clear hA
  obtain ⟨Y, hY⟩ : ∃ Y, Y = turnedZ z n k := ⟨_, rfl⟩
  rw [← hY] at HY
  have HYY := Lib.hid hY
  clear hY HM HR
  go_loopw [10, 11] (fun v iv wr => ∃ (j : Nat) (x : Int), iv = .int .i64 x ∧ x = (n : Int) - 1 - j ∧ j ≤ n - k ∧ OwnsInts wr w.heap.size v j Y ∧ Below w.heap.size w wr) (fun _ iv _ => (intOf iv + 1).toNat)
  case atStart => exact ⟨0, _, rfl, by omega, by omega, OwnsInts.nil _ _ _, H1.out⟩
  case round =>
    obtain ⟨j, x, rfl, hx, hj, hown, hbel⟩ := hrel
    by_cases hlt : (k : Int) ≤ x
    · obtain ⟨q, rfl⟩ : ∃ q : Nat, x = q := ⟨x.toNat, by omega⟩
      have hqn : q < n := by omega
      obtain ⟨b, off, rfl, hcell⟩ := HA.out wr hbel q hqn
      have hzy : Y j = z q := by rw [HYY.out, turnedZ, if_pos (by omega)]; congr 1; omega
      have hqn2 : (q : Int) < n := by omega
      have HX2 := Lib.hid hx
      have HZY := Lib.hid hzy
      generalize z q = u at *
      clear hx hzy
      go_wp2_with (at_builtin; refine wpList_append_own _ rfl _ _ 26 rfl w.heap.size 2 i0 (.int .i64 0) 1 8 Tryd.underlying26 hinf hz0 hz1 hz2 rfl (by decide) _ _ _ rfl (hown.alloc _) ⟨wr.heap.size, 0, none⟩ 1 1 [.int .i64 u] rfl rfl ?c1 ?c2 ?c3 ?c4 ?c5 ?_)
      case c1 =>
        intro j' u' hj'
        match j', hj' with
        | 0, hj' => simp at hj'; subst hj'; simp [Addr.add]
      case c2 => intro u' hu'; simp at hu'; subst hu'; rfl
      case c3 => unfold maxLen; omega
      case c4 => omega
      case c5 => have := hbel.size; simp; omega
      intro v' w3 hown' hgrow _
      have hown2 : OwnsInts w3 w.heap.size v' (j + 1) Y := OwnsInts.next (by rw [HZY.out]; exact hown')
      have hbel2 : Below w.heap.size w w3 := (hbel.alloc hbel.size _).grown hgrow (by have := hbel.size; simp; omega) (fun k' hk' => (hown.lt k' hk').1)
      clear hown hown' hgrow hbel hcell
      go_wp2
      go_roundw
      case rel => exact ⟨j + 1, _, rfl, by have := HX2.out; omega, by have := HX2.out; omega, hown2, hbel2⟩
      case measure => simp [intOf]
    · obtain rfl : j = n - k := by omega
      obtain rfl : x = (k : Int) - 1 := by omega
      clear hx hj
      go_wp2_with fail
      go_loopw [10, 12] (fun v iv wr => ∃ (i : Nat), iv = .int .i64 (i : Nat) ∧ i ≤ k ∧ OwnsInts wr w.heap.size v (n - k + i) Y ∧ Below w.heap.size w wr) (fun _ iv _ => k - (intOf iv).toNat)
      case atStart => exact ⟨0, rfl, by omega, hown, hbel⟩
      case round =>
        clear hown hbel
        obtain ⟨i, rfl, hi, hown, hbel⟩ := hrel
        have hi2 : (i : Int) ≤ k := by omega
        by_cases hlt : i < k
        · have hqn : i < n := by omega
          obtain ⟨b, off, rfl, hcell⟩ := HA.out wr hbel i hqn
          have hzy : Y (n - k + i) = z i := by rw [HYY.out, turnedZ, if_neg (by omega), Nat.add_sub_cancel_left]
          have HZY := Lib.hid hzy
          generalize z i = u at *
          clear hzy
          go_wp2_with (at_builtin; refine wpList_append_own _ rfl _ _ 26 rfl w.heap.size 2 i0 (.int .i64 0) 1 8 Tryd.underlying26 hinf hz0 hz1 hz2 rfl (by decide) _ _ _ rfl (hown.alloc _) ⟨wr.heap.size, 0, none⟩ 1 1 [.int .i64 u] rfl rfl ?d1 ?d2 ?d3 ?d4 ?d5 ?_)
          case d1 =>
            intro j' u' hj'
            match j', hj' with
            | 0, hj' => simp at hj'; subst hj'; simp [Addr.add]
          case d2 => intro u' hu'; simp at hu'; subst hu'; rfl
          case d3 => unfold maxLen; omega
          case d4 => omega
          case d5 => have := hbel.size; simp; omega
          intro v' w3 hown' hgrow _
          have hown2 : OwnsInts w3 w.heap.size v' (n - k + (i + 1)) Y := OwnsInts.next (n := n - k + i) (by rw [HZY.out]; exact hown')
          have hbel2 : Below w.heap.size w w3 := (hbel.alloc hbel.size _).grown hgrow (by have := hbel.size; simp; omega) (fun k' hk' => (hown.lt k' hk').1)
          clear hown hown' hgrow hbel hcell
          go_wp2
          go_roundw
          case rel => exact ⟨i + 1, by go_num, by omega, hown2, hbel2⟩
          case measure => simp [intOf]; omega
        · obtain rfl : i = k := by omega
          rw [show n - i + i = n from by omega] at hown
          obtain ⟨ao2, cap2, rfl, hI2⟩ := hown.view
          have HB := Lib.hid hbel
          clear hown hbel hlt hi hi2 HA
          go_wp2_with fail
          refine (HY.out _ ao2 cap2 hI2).mono ?_
          rintro x w4 ⟨rfl, h4⟩
          have H4 : Hid (Below w.heap.size w w4) := HB.out.trans (h4.mono HB.out.size)
          clear h4
          go_wp2_with fail
          refine (HX.out _ (HT.out.next H4.out)).mono ?_
          rintro x w5 ⟨rfl, h5⟩
          have H5 : Hid (Below w.heap.size w w5) := H4.out.trans (h5.mono H4.out.size)
          clear h5
          go_wp2
          go_ret
          exact ⟨rfl, H5.out⟩
end Go.Proofs.YtcclhblkchghbaaDoor
