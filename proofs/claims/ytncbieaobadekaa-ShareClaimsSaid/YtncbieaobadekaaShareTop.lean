/- Package share: weigh, Apportion, Allocate. -/
import Derived.Test.YtncbieaobadekaaSharePort
import Derived.Test.YtncbieaobadekaaShareLost
namespace Go.Proofs.Ytncbieaobadekaa
open Go.ChangeShapes Go.WideShapes Go.ChangeAt Go.RowKit
theorem weigh_full (t : Int) (n cap : Nat) (ao : Option Addr) (hn : n ≤ 1000000) (h : 1024 < n) (w : World) :
    Calls Try.prog 48 #[.int .i64 t, .slice ao n cap] w (Ret (.tuple #[.int .i64 0, .int .i64 6]) w) := by
  have n1 : (n : Int) ≤ 1000000 := by omega
  have d1 : decide (1024 < (n : Int)) = true := by simp; omega
  have d2 : decide (1024 < n) = true := by simp; omega
  clear h hn
  go_enter Try.func48, Try.ntmps48
  go_wp2
  go_ret2
  exact ⟨rfl, by go_grown⟩
theorem weigh_arg (t : Int) (z : Nat → Int) (n cap : Nat) (ao : Option Addr) (hn : n ≤ 1024) (hb : t < 0 ∨ ∃ i, i < n ∧ z i < 0) (w : World) (h : IntsAt w ao n z) :
    Calls Try.prog 48 #[.int .i64 t, .slice ao n cap] w (Ret (.tuple #[.int .i64 0, .int .i64 1]) w) := by
  have n1 : (n : Int) ≤ 1000000 := by omega
  have d1 : decide (1024 < (n : Int)) = false := by simp; omega
  have d2 : decide (1024 < n) = false := by simp; omega
  have HA := Lib.hid (anyBelow_any z n cap ao (by omega) w h)
  have HB := Lib.hid hb
  clear h hn hb
  by_cases ht : t < 0
  · have d3 := decide_eq_true ht
    clear ht
    go_enter Try.func48, Try.ntmps48
    go_wp2
    go_ret2
    exact ⟨rfl, by go_grown⟩
  · have d3 := decide_eq_false ht
    have HT := Lib.hid ht
    clear ht
    go_enter Try.func48, Try.ntmps48
    go_wp2_with fail
    refine HA.out.mono ?_
    rintro e w1 ⟨rfl, b, rfl, hb⟩
    obtain rfl : b = true := hb.2 (HB.out.resolve_left fun hh => by have := HT.out; omega)
    clear hb
    go_wp2
    go_ret2
    exact ⟨rfl, by go_grown⟩
theorem weigh_sum (t : Int) (z : Nat → Int) (n cap : Nat) (ao : Option Addr) (hn : n ≤ 1024) (ht : 0 ≤ t) (hz : ∀ i, i < n → 0 ≤ z i ∧ z i ≤ 9223372036854775807) (w : World) (h : IntsAt w ao n z) :
    Calls Try.prog 48 #[.int .i64 t, .slice ao n cap] w (Ret (amt (sumTo z n)) w) := by
  have n1 : (n : Int) ≤ 1000000 := by omega
  have d1 : decide (1024 < (n : Int)) = false := by simp; omega
  have d2 : decide (1024 < n) = false := by simp; omega
  have d3 : decide (t < 0) = false := decide_eq_false (by omega)
  have HA := Lib.hid (anyBelow_any z n cap ao (by omega) w h)
  have HM := Lib.hid (msumV z n cap ao (by omega) (fun i hi => ⟨by have := (hz i hi).1; omega, (hz i hi).2⟩) w h)
  have HZ := Lib.hid hz
  obtain ⟨x, e, hv⟩ := amt_form (sumTo z n)
  rw [hv] at HM ⊢
  clear h hn hz ht hv
  go_enter Try.func48, Try.ntmps48
  go_wp2_with fail
  refine HA.out.mono ?_
  rintro e w1 ⟨rfl, b, rfl, hb⟩
  have hbf : b = false := by
    cases b
    · rfl
    · obtain ⟨i, hi, hneg⟩ := hb.1 rfl
      have := (HZ.out i hi).1
      omega
  subst hbf
  clear hb
  go_wp2_with fail
  refine HM.out.mono ?_
  rintro e w1 ⟨rfl, h1⟩
  go_wp2
  go_ret2
  exact ⟨rfl, h1⟩
theorem sumTo_nat (z : Nat → Nat) : ∀ n, sumTo (fun i => (z i : Int)) n = (sN z n : Nat)
  | 0 => rfl
  | n + 1 => by rw [sumTo, sumTo_nat z n, sN]; omega
/-- What Apportion answers where all is well. -/
def PortsE (a n : Nat) (z : Nat → Nat) (w : World) (e : Ending) (w' : World) : Prop :=
  Below w.heap.size w w' ∧ ∃ (g : Nat) (f' : Nat → Int), w.heap.size ≤ g ∧ e = .returned (.tuple #[.slice (some ⟨g, 0, none⟩) n n, .int .i64 0]) ∧ SortedOn (ltK (restK (fun i => (rN a (sN z n) z i : Nat)))) f' 0 n ∧ Same 0 n (fun i => (i : Int)) f' ∧
    RowI w' g n (fun i => (qN a (sN z n) z i : Nat) + upN f' (a - sN (qN a (sN z n) z) n) i)
theorem weigh_nat (a n cap : Nat) (z : Nat → Nat) (ao : Option Addr) (hn : n ≤ 1024) (hc : sN z n ≤ 9223372036854775807) (w : World) (h : IntsAt w ao n (fun i => (z i : Nat))) :
    Calls Try.prog 48 #[.int .i64 a, .slice ao n cap] w (Ret (.tuple #[.int .i64 (sN z n : Nat), .int .i64 0]) w) := by
  have := weigh_sum a (fun i => (z i : Int)) n cap ao hn (by omega) (fun i hi => ⟨by omega, by have := sN_one z hi; omega⟩) w h
  rwa [sumTo_nat, amt_in (by omega)] at this
theorem appor_few (a n cap : Nat) (z : Nat → Nat) (ao : Option Addr) (hn : n ≤ 60) (a0 : 0 < a) (ha : a ≤ 9223372036854775807) (c0 : 0 < sN z n) (hc : sN z n ≤ 9223372036854775807) (w : World) (h : IntsAt w ao n (fun i => (z i : Nat))) :
    Calls Try.prog 14 #[.int .i64 a, .slice ao n cap] w (PortsE a n z w) := by
  have HW := Lib.hid (weigh_nat a n cap z ao (by omega) hc w h)
  have HP := Lib.hid (fun w' h' => portions_few a n cap z ao hn ha c0 hc w' h')
  have H := Lib.hid h
  have d1 : ((a : Int) == 0) = false := by rw [beq_eq_false_iff_ne]; omega
  unfold PortsE
  unfold Ports at HP
  obtain ⟨c, hcc⟩ : ∃ c, c = sN z n := ⟨_, rfl⟩
  rw [← hcc] at HW HP ⊢
  rw [← hcc] at c0
  have d2 : ((c : Int) == 0) = false := by rw [beq_eq_false_iff_ne]; omega
  clear h hn a0 ha c0 hc hcc
  go_enter Try.func14, Try.ntmps14
  go_wp2_with fail
  refine HW.out.mono ?_
  rintro e w1 ⟨rfl, h1⟩
  have H1 := Lib.hid h1
  clear h1
  go_wp2_with fail
  refine (HP.out w1 (H.out.below H1.out)).mono ?_
  rintro e w2 ⟨h2, g, f', hg, rfl, hf1, hf2, hf3⟩
  have H2 := Lib.hid h2
  have HG := Lib.hid hg
  have HF1 := Lib.hid hf1
  have HF2 := Lib.hid hf2
  have HF3 := Lib.hid hf3
  clear h2 hg hf1 hf2 hf3
  go_wp2_with fail
  go_ret2
  exact ⟨H1.out.trans (H2.out.mono H1.out.size), g, f', Nat.le_trans H1.out.size HG.out, rfl, HF1.out, HF2.out, HF3.out⟩
theorem alloc_few (a n cap : Nat) (z : Nat → Nat) (ao : Option Addr) (hn : n ≤ 60) (ha : a ≤ 9223372036854775807) (c0 : a < sN z n) (hc : sN z n ≤ 9223372036854775807) (w : World) (h : IntsAt w ao n (fun i => (z i : Nat))) :
    Calls Try.prog 17 #[.int .i64 a, .slice ao n cap] w (PortsE a n z w) := by
  have HW := Lib.hid (weigh_nat a n cap z ao (by omega) hc w h)
  have HP := Lib.hid (fun w' h' => portions_few a n cap z ao hn ha (by omega) hc w' h')
  have H := Lib.hid h
  unfold PortsE
  unfold Ports at HP
  obtain ⟨c, hcc⟩ : ∃ c, c = sN z n := ⟨_, rfl⟩
  rw [← hcc] at HW HP ⊢
  rw [← hcc] at c0
  have d1 : decide ((c : Int) ≤ (a : Int)) = false := decide_eq_false (by omega)
  have d2 : decide (c ≤ a) = false := decide_eq_false (by omega)
  clear h hn ha c0 hc hcc
  go_enter Try.func17, Try.ntmps17
  go_wp2_with fail
  refine HW.out.mono ?_
  rintro e w1 ⟨rfl, h1⟩
  have H1 := Lib.hid h1
  clear h1
  go_wp2_with fail
  refine (HP.out w1 (H.out.below H1.out)).mono ?_
  rintro e w2 ⟨h2, g, f', hg, rfl, hf1, hf2, hf3⟩
  have H2 := Lib.hid h2
  have HG := Lib.hid hg
  have HF1 := Lib.hid hf1
  have HF2 := Lib.hid hf2
  have HF3 := Lib.hid hf3
  clear h2 hg hf1 hf2 hf3
  go_wp2_with fail
  go_ret2
  exact ⟨H1.out.trans (H2.out.mono H1.out.size), g, f', Nat.le_trans H1.out.size HG.out, rfl, HF1.out, HF2.out, HF3.out⟩
end Go.Proofs.Ytncbieaobadekaa
