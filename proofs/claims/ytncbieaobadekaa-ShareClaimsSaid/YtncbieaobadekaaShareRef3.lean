/- The document's Apportion and Allocate, in full; package share's Allocate, in full. -/
import Derived.Test.YtncbieaobadekaaShareRef2
import Derived.Lib.SliceRun
namespace Go.Proofs.Ytncbieaobadekaa
open Go.ChangeShapes Go.WideShapes Go.ChangeAt Go.RowKit
theorem wrong_bad (t : Int) (z : Nat → Int) (n cap : Nat) (ao : Option Addr) (hn : n ≤ 1024) (hz : ∀ i, i < n → -9223372036854775808 ≤ z i ∧ z i ≤ 9223372036854775807) (hb : t < 0 ∨ ∃ i, i < n ∧ z i < 0) (w : World) (h : IntsAt w ao n z) :
    Calls Try.prog 50 #[.int .i64 t, .slice ao n cap] w (RetS (.tuple #[.int .i64 0, .int .i64 1]) w) :=
  (wrong_any t z n cap ao hn hz w h).mono fun e w' ⟨hw, hd⟩ => by
    rcases hd with ⟨_, he⟩ | ⟨⟨h0, h1⟩, _⟩
    · exact ⟨he, hw⟩
    · rcases hb with hb | ⟨i, hi, hb⟩
      · omega
      · have := h1 i hi; omega
theorem wrong_good (t : Int) (z : Nat → Int) (n cap : Nat) (ao : Option Addr) (hn : n ≤ 1024) (hz : ∀ i, i < n → -9223372036854775808 ≤ z i ∧ z i ≤ 9223372036854775807) (ht : 0 ≤ t) (h0 : ∀ i, i < n → 0 ≤ z i) (w : World) (h : IntsAt w ao n z) :
    Calls Try.prog 50 #[.int .i64 t, .slice ao n cap] w (RetS (amt (sumTo z n)) w) :=
  (wrong_any t z n cap ao hn hz w h).mono fun e w' ⟨hw, hd⟩ => by
    rcases hd with ⟨hb, _⟩ | ⟨_, he⟩
    · rcases hb with hb | ⟨i, hi, hb⟩
      · omega
      · have := h0 i hi; omega
    · exact ⟨he, hw⟩
theorem AppP.congr {c : Int} {m : Nat} {P P' : Nat → Int} {w w' : World} {e : Ending} (h : AppP c m P w e w') (he : ∀ i, i < m → P i = P' i) : AppP c m P' w e w' := by
  obtain ⟨hb, ao, cap, e1, hi⟩ := h
  exact ⟨hb, ao, cap, e1, hi.congr he⟩
theorem refapp_all {t : Int} {z : Nat → Int} {n : Nat} {c : Int} {m : Nat} {P : Nat → Int} (hA : AppAns t z n c m P) (cap : Nat) (ao : Option Addr) (hn : n ≤ 60) (ht : t ≤ 9223372036854775807) (hz : ∀ i, i < n → -9223372036854775808 ≤ z i ∧ z i ≤ 9223372036854775807) (w : World) (h : IntsAt w ao n z) :
    Calls Try.prog 15 #[.int .i64 t, .slice ao n cap] w (AppP c m P w) := by
  cases hA with
  | bad hb => exact refapp_fail t 0 1 n cap ao (Or.inl rfl) w (wrong_bad t z n cap ao (by omega) hz hb w h)
  | big ht0 hz0 hbig =>
    have hw := wrong_good t z n cap ao (by omega) hz ht0 hz0 w h
    rw [amt_out (by omega)] at hw
    exact refapp_fail t 0 2 n cap ao (Or.inr rfl) w hw
  | rule ht0 hz0 hs =>
    have hw := wrong_good t z n cap ao (by omega) hz (by omega) hz0 w h
    rw [hs, amt_in (by omega)] at hw
    obtain ⟨a, rfl⟩ : ∃ a : Nat, t = a := ⟨t.toNat, by omega⟩
    exact refapp_rule a n cap ao (by omega) w hw
  | zero ht0 hz0 hs =>
    subst ht0
    have hy := nat_of hz0
    have hsy := sumTo_eq n hy
    exact refapp_parts 0 n cap (fun i => (z i).toNat) (fun _ => 0) ao hn (by omega) (by omega) (Or.inl rfl) w (h.congr hy)
  | parts a y f' hta a0 hy c0 hc hf =>
    subst hta
    have := refapp_parts a n cap y f' ao hn (by omega) hc (Or.inr ⟨c0, hf⟩) w (h.congr hy)
    rwa [if_neg (by omega)] at this
/-- What Allocate answers. -/
inductive AllAns (t : Int) (z : Nat → Int) (n : Nat) : Int → Nat → (Nat → Int) → Prop
  | bad (h : t < 0 ∨ ∃ i, i < n ∧ z i < 0) : AllAns t z n 1 0 (fun _ => 0)
  | big (ht : 0 ≤ t) (hz : ∀ i, i < n → 0 ≤ z i) (h : 9223372036854775807 < sumTo z n) : AllAns t z n 2 0 (fun _ => 0)
  | whole (ht : 0 ≤ t) (hz : ∀ i, i < n → 0 ≤ z i) (h : sumTo z n ≤ t) (hm : sumTo z n ≤ 9223372036854775807) : AllAns t z n 0 n z
  | parts (a : Nat) (y : Nat → Nat) (f' : Nat → Int) (ht : t = a) (hz : ∀ i, i < n → z i = y i) (c0 : a < sN y n) (hc : sN y n ≤ 9223372036854775807) (hf : FirstP a n y f') : AllAns t z n 0 n (portP a n y f')
theorem alloc_fail (t : Int) (x c : Int) (n cap : Nat) (ao : Option Addr) (hx : c = 1 ∨ c = 2) (w : World)
    (HW : Calls Try.prog 48 #[.int .i64 t, .slice ao n cap] w (Ret (.tuple #[.int .i64 x, .int .i64 c]) w)) :
    Calls Try.prog 17 #[.int .i64 t, .slice ao n cap] w (AppP c 0 (fun _ => 0) w) := by
  have H := Lib.hid HW
  clear HW
  rcases hx with rfl | rfl
  all_goals
    go_enter Try.func17, Try.ntmps17
    go_wp2_with fail
    refine H.out.mono ?_
    rintro e w1 ⟨rfl, h1⟩
    have H1 := Lib.hid h1
    clear h1
    go_wp2
    go_ret2
    exact ⟨H1.out, none, 0, rfl, fun h => absurd h (Nat.lt_irrefl 0)⟩
theorem refall_fail (t : Int) (x c : Int) (n cap : Nat) (ao : Option Addr) (hx : c = 1 ∨ c = 2) (w : World)
    (HW : Calls Try.prog 50 #[.int .i64 t, .slice ao n cap] w (RetS (.tuple #[.int .i64 x, .int .i64 c]) w)) :
    Calls Try.prog 18 #[.int .i64 t, .slice ao n cap] w (AppP c 0 (fun _ => 0) w) := by
  have H := Lib.hid HW
  clear HW
  rcases hx with rfl | rfl
  all_goals
    go_enter Try.func18, Try.ntmps18
    go_wp2_with fail
    refine H.out.mono ?_
    rintro e w1 ⟨rfl, rfl⟩
    go_wp2
    go_ret2
    exact ⟨Below.refl _ _, none, 0, rfl, fun h => absurd h (Nat.lt_irrefl 0)⟩
def ClonedP (n : Nat) (z : Nat → Int) (w : World) (e : Ending) (w' : World) : Prop := Below w.heap.size w w' ∧ ∃ ao cap, e = .returned (.slice ao n cap) ∧ IntsAt w' ao n z
set_option maxRecDepth 100000 in
set_option maxHeartbeats 1000000 in
theorem clone_any (z : Nat → Int) (n cap : Nat) (ao : Option Addr) (hn : n ≤ 1000000) (w : World) (h : IntsAt w ao n z) :
    Calls Try.prog 52 #[.slice ao n cap] w (ClonedP n z w) := by
  rcases Nat.eq_zero_or_pos n with rfl | hp
  · rcases ao with _ | ad
    · refine (Try.slices_Clone_nil 0 cap w).mono ?_
      rintro e w' ⟨rfl, rfl⟩
      exact ⟨Below.refl _ _, none, 0, rfl, fun h => absurd h (Nat.lt_irrefl 0)⟩
    · obtain ⟨i0, hinf, hz0, hz1, hz2⟩ := info_parts infoI'
      clear h hn
      have hown : ∀ W : World, (W.alloc (.cells #[] 2)).ownsRow W.heap.size 2 1 (.slice (some ⟨W.heap.size, 0, none⟩) 0 0) 0 [] := fun W => ⟨rfl, Or.inr ⟨W.heap.size, 0, #[], rfl, Nat.le_refl _, heap_alloc_new _ _, Nat.le_refl _, Nat.zero_le _, rfl, rfl⟩⟩
      have HOW := Lib.hid (hown w)
      have q22 : ∀ (w : World) (a : Option Addr) (n c n' c' : Nat), (binOp .eql 22 (.slice a n c) (.slice none n' c')).run Try.prog w = .ok (.bool a.isNone) w := fun w a n c n' c' => Lib.run_eql_slice_nil w _ _ a n c n' c' Try.underlying22
      clear hown
      go_enter Try.func52, Try.ntmps52
      go_wp2_with (at_builtin; refine wpList_append_own _ rfl _ _ 22 rfl w.heap.size 2 i0 (.int .i64 0) 1 8 Try.underlying22 hinf hz0 hz1 hz2 rfl (by decide) _ 0 [] rfl HOW.out ad 0 cap [] rfl rfl (fun j u h => by simp at h) (fun u h => by simp at h) (by unfold maxLen; omega) (by omega) (by simp) ?_)
      intro v' w' hown' hgrow _
      have HOW' := Lib.hid hown'
      have HB : Hid (Below w.heap.size w w') := ((Below.refl _ _).alloc (Nat.le_refl _) _).grown hgrow (by simp) (fun k' hk' => (HOW.out.lt k' hk').1)
      clear hown' hgrow
      have HV : Hid (∃ ao cap, v' = .slice ao 0 cap) := by
        rcases HOW'.out.2 with ⟨e, _⟩ | ⟨g, c, cur, e, _⟩
        · exact ⟨none, 0, e⟩
        · exact ⟨_, _, e⟩
      go_wp2
      go_ret
      obtain ⟨ao', cap', e⟩ := HV.out
      exact ⟨HB.out, ao', cap', by rw [e]; rfl, fun h => absurd h (Nat.lt_irrefl 0)⟩
  · obtain ⟨b, off, rfl, hlt, hc⟩ := h hp
    obtain ⟨i0, hinf, hz0, hz1, hz2⟩ := info_parts infoI'
    refine (Try.slices_Clone i0 (.int .i64 0) 1 8 hinf hz0 hz1 hz2 rfl (by decide) (fun w => by simp [Go.sizeOf, typeInfo, hinf, hz1]) b off n cap ((List.range n).map fun i => .int .i64 (z i)) w (by simp) (by unfold maxLen; omega) (by omega) (fun j u hj => ?_) (fun u hu => ?_)).mono ?_
    · have hj2 : j < n := by
        have := (List.getElem?_eq_some_iff.1 hj).1
        simpa using this
      rw [hc j hj2]
      simp [hj2] at hj
      rw [hj]
    · obtain ⟨i, _, rfl⟩ := List.mem_map.1 hu
      rfl
    · rintro e w' ⟨v', rfl, hown, _, hb⟩
      obtain ⟨ao', cap', rfl, hv⟩ := OwnsV.view (f := fun i => .int .i64 (z i)) hown
      refine ⟨hb, ao', cap', rfl, fun hn => ?_⟩
      obtain ⟨b', e', _, hl, hc'⟩ := hv hn
      exact ⟨b', 0, e', hl, fun i hi => by rw [Nat.zero_add]; exact hc' i hi⟩
theorem alloc_whole (t s : Int) (z : Nat → Int) (n cap : Nat) (ao : Option Addr) (hn : n ≤ 1000000) (hs : s ≤ t) (w : World) (h : IntsAt w ao n z)
    (HW : Calls Try.prog 48 #[.int .i64 t, .slice ao n cap] w (Ret (.tuple #[.int .i64 s, .int .i64 0]) w)) :
    Calls Try.prog 17 #[.int .i64 t, .slice ao n cap] w (AppP 0 n z w) := by
  have H := Lib.hid HW
  have HC := Lib.hid (fun W h => clone_any z n cap ao hn W h)
  have HI := Lib.hid h
  have d1 : decide (s ≤ t) = true := decide_eq_true hs
  clear HW h hn hs
  go_enter Try.func17, Try.ntmps17
  go_wp2_with fail
  refine H.out.mono ?_
  rintro e w1 ⟨rfl, h1⟩
  have H1 := Lib.hid h1
  clear h1
  go_wp2_with fail
  refine (HC.out w1 (HI.out.below H1.out)).mono ?_
  rintro e w2 ⟨h2, ao', cap', rfl, hi⟩
  have H2 : Hid (Below w.heap.size w w2) := H1.out.trans (h2.mono H1.out.size)
  have HI2 := Lib.hid hi
  clear h2 hi
  go_wp2
  go_ret2
  exact ⟨H2.out, ao', cap', rfl, HI2.out⟩
theorem alloc_all (t : Int) (z : Nat → Int) (n cap : Nat) (ao : Option Addr) (hn : n ≤ 60) (ht : t ≤ 9223372036854775807) (hz : ∀ i, i < n → z i ≤ 9223372036854775807) (w : World) (h : IntsAt w ao n z) :
    Calls Try.prog 17 #[.int .i64 t, .slice ao n cap] w (fun e w' => ∃ c m P, AllAns t z n c m P ∧ AppP c m P w e w') := by
  by_cases hb : t < 0 ∨ ∃ i, i < n ∧ z i < 0
  · exact (alloc_fail t 0 1 n cap ao (Or.inl rfl) w (weigh_arg t z n cap ao (by omega) hb w h)).mono fun e w' h => ⟨_, _, _, .bad hb, h⟩
  have ht0 : 0 ≤ t := by
    rcases Int.lt_or_le t 0 with h | h
    · exact absurd (Or.inl h) hb
    · exact h
  have hz0 : ∀ i, i < n → 0 ≤ z i := fun i hi => by
    rcases Int.lt_or_le (z i) 0 with h | h
    · exact absurd (Or.inr ⟨i, hi, h⟩) hb
    · exact h
  have hw := weigh_sum t z n cap ao (by omega) ht0 (fun i hi => ⟨hz0 i hi, hz i hi⟩) w h
  have hs0 := sumTo_pos n hz0
  by_cases hbig : 9223372036854775807 < sumTo z n
  · rw [amt_out (by omega)] at hw
    exact (alloc_fail t 0 2 n cap ao (Or.inr rfl) w hw).mono fun e w' h => ⟨_, _, _, .big ht0 hz0 hbig, h⟩
  rw [amt_in (by omega)] at hw
  by_cases hs : sumTo z n ≤ t
  · exact (alloc_whole t _ z n cap ao (by omega) hs w h hw).mono fun e w' h => ⟨_, _, _, .whole ht0 hz0 hs (by omega), h⟩
  obtain ⟨a, rfl⟩ : ∃ a : Nat, t = a := ⟨t.toNat, by omega⟩
  have hy := nat_of hz0
  have hsy := sumTo_eq n hy
  refine (alloc_few a n cap (fun i => (z i).toNat) ao hn (by omega) (by omega) (by omega) w (h.congr hy)).mono ?_
  rintro e w' ⟨hb', g, f', hg, rfl, h1, h2, h3⟩
  exact ⟨0, n, _, .parts a _ f' rfl hy (by omega) (by omega) ⟨h1, h2⟩, hb', _, _, rfl, h3.ints⟩
theorem portP_zero (n : Nat) (y : Nat → Nat) (f' : Nat → Int) (i : Nat) : portP 0 n y f' i = 0 := by
  unfold portP
  rw [Nat.zero_sub, upN]
  unfold qN
  simp
theorem refall_parts (a n cap : Nat) (y : Nat → Nat) (f' : Nat → Int) (ao : Option Addr) (hn : n ≤ 60) (hc : sN y n ≤ 9223372036854775807) (h0 : a < sN y n) (hf : FirstP a n y f') (w : World) (h : IntsAt w ao n (fun i => (y i : Nat))) :
    Calls Try.prog 18 #[.int .i64 a, .slice ao n cap] w (AppP 0 n (portP a n y f') w) := by
  have HW : Hid (Calls Try.prog 50 #[.int .i64 a, .slice ao n cap] w (RetS (.tuple #[.int .i64 (sN y n : Nat), .int .i64 0]) w)) := by
    have := wrong_good a (fun i => (y i : Nat)) n cap ao (by omega) (fun i hi => by have := sN_one y hi; omega) (by omega) (fun i hi => by omega) w h
    rw [sumTo_nat, amt_in (by omega)] at this
    exact this
  have HA : Hid (Calls Try.prog 15 #[.int .i64 a, .slice ao n cap] w (AppP 0 n (portP a n y f') w)) := by
    refine (refapp_parts a n cap y f' ao hn (by omega) hc (Or.inr ⟨by omega, hf⟩) w h).mono fun e w' hh => hh.congr fun i _ => ?_
    by_cases e : a = 0
    · subst e; rw [if_pos rfl, portP_zero]
    · rw [if_neg e]
  obtain ⟨c, hcc⟩ : ∃ c, c = sN y n := ⟨_, rfl⟩
  rw [← hcc] at HW h0
  have d1 : decide ((a : Int) < (c : Int)) = true := decide_eq_true (by omega)
  have d2 : decide (a < c) = true := decide_eq_true h0
  clear h hn hc h0 hf hcc
  generalize portP a n y f' = P at *
  go_enter Try.func18, Try.ntmps18
  go_wp2_with fail
  refine HW.out.mono ?_
  rintro e w1 ⟨rfl, rfl⟩
  go_wp2_with fail
  refine HA.out.mono ?_
  rintro e w1 ⟨h1, ao', cap', rfl, hi⟩
  have H1 := Lib.hid h1
  have HI := Lib.hid hi
  clear h1 hi
  go_wp2
  go_ret2
  exact ⟨H1.out, ao', cap', rfl, HI.out⟩
set_option maxRecDepth 100000 in
set_option maxHeartbeats 4000000 in
theorem refall_whole (t s : Int) (z : Nat → Int) (n cap : Nat) (ao : Option Addr) (hn : n ≤ 60) (hs : s ≤ t) (w : World) (h : IntsAt w ao n z)
    (HW : Calls Try.prog 50 #[.int .i64 t, .slice ao n cap] w (RetS (.tuple #[.int .i64 s, .int .i64 0]) w)) :
    Calls Try.prog 18 #[.int .i64 t, .slice ao n cap] w (AppP 0 n z w) := by
  have H := Lib.hid HW
  have HI := Lib.hid h
  have d1 : decide (t < s) = false := decide_eq_false (by omega)
  have n2 : (n : Int) ≤ 60 := by omega
  obtain ⟨i0, hinf, hz0, hz1, hz2⟩ := info_parts infoI'
  clear HW h hn hs
  go_enter Try.func18, Try.ntmps18
  go_wp2_with fail
  refine H.out.mono ?_
  rintro e w1 ⟨rfl, rfl⟩
  go_wp2_with fail
  go_loopw [8, 9] (fun pv iv wr => ∃ k : Nat, k ≤ n ∧ iv = .int .i64 (k : Nat) ∧ OwnsV wr w.heap.size 2 pv k (fun i => .int .i64 (z i)) ∧ Below w.heap.size w wr) (fun _ iv _ => n - (intOf iv).toNat)
  case atStart => exact ⟨0, Nat.zero_le _, rfl, OwnsV.nil _ _ _ _, Below.refl _ _⟩
  case round =>
    obtain ⟨k, hk, rfl, hp, hbel⟩ := hrel
    have hk2 : (k : Int) ≤ n := by omega
    by_cases hlt : k < n
    · have hlt2 : (k : Int) < n := by omega
      have HL := Lib.hid hlt
      obtain ⟨b, off, rfl, hb, hcl⟩ := HI.out (by omega)
      have c1 := (hbel.cell (by exact hb)).trans (hcl k hlt)
      obtain ⟨x, hx⟩ : ∃ x, z k = x := ⟨_, rfl⟩
      rw [hx] at c1
      have HX := Lib.hid hx
      clear hx hcl hb hlt
      go_wp2_with (at_builtin; refine wpList_append_own _ rfl _ _ 22 rfl w.heap.size 2 i0 (.int .i64 0) 1 8 Try.underlying22 hinf hz0 hz1 hz2 rfl (by decide) _ _ _ rfl (hp.alloc _) ⟨wr.heap.size, 0, none⟩ 1 1 [.int .i64 x] rfl rfl ?c1 ?c2 ?c3 ?c4 ?c5 ?_)
      case c1 =>
        intro j' u' hj'
        match j', hj' with
        | 0, hj' => simp at hj'; subst hj'; simp [Addr.add]
      case c2 => intro u' hu'; simp at hu'; subst hu'; rfl
      case c3 => unfold maxLen; omega
      case c4 => omega
      case c5 => have := hbel.size; simp; omega
      intro v' w6 hown' hgrow _
      have HOW2 : Hid (OwnsV w6 w.heap.size 2 v' (k + 1) (fun i => .int .i64 (z i))) := OwnsV.next (by rw [HX.out]; exact hown')
      have HBE2 : Hid (Below w.heap.size w w6) := (hbel.alloc hbel.size _).grown hgrow (by have := hbel.size; simp; omega) (fun k' hk' => (hp.lt k' hk').1)
      clear hp hown' hgrow hbel c1
      go_wp2
      go_roundw
      case rel => exact ⟨k + 1, HL.out, by go_num, HOW2.out, HBE2.out⟩
      case measure => have := HL.out; simp [intOf]; omega
    · obtain rfl : k = n := by omega
      obtain ⟨ro, rc, rfl, hv⟩ := hp.view
      have HV := Lib.hid hv
      have HBE := Lib.hid hbel
      clear hp hbel hv hlt hk
      go_wp2
      go_ret2
      refine ⟨HBE.out, ro, rc, rfl, fun hn => ?_⟩
      obtain ⟨b, e, _, hlt, hc⟩ := HV.out hn
      exact ⟨b, 0, e, hlt, fun i hi => by rw [Nat.zero_add]; exact hc i hi⟩
theorem refall_all {t : Int} {z : Nat → Int} {n : Nat} {c : Int} {m : Nat} {P : Nat → Int} (hA : AllAns t z n c m P) (cap : Nat) (ao : Option Addr) (hn : n ≤ 60) (ht : t ≤ 9223372036854775807) (hz : ∀ i, i < n → -9223372036854775808 ≤ z i ∧ z i ≤ 9223372036854775807) (w : World) (h : IntsAt w ao n z) :
    Calls Try.prog 18 #[.int .i64 t, .slice ao n cap] w (AppP c m P w) := by
  cases hA with
  | bad hb => exact refall_fail t 0 1 n cap ao (Or.inl rfl) w (wrong_bad t z n cap ao (by omega) hz hb w h)
  | big ht0 hz0 hbig =>
    have hw := wrong_good t z n cap ao (by omega) hz ht0 hz0 w h
    rw [amt_out (by omega)] at hw
    exact refall_fail t 0 2 n cap ao (Or.inr rfl) w hw
  | whole ht0 hz0 hs hm =>
    have hw := wrong_good t z n cap ao (by omega) hz ht0 hz0 w h
    have hs0 := sumTo_pos n hz0
    rw [amt_in (by omega)] at hw
    exact refall_whole t _ z n cap ao hn hs w h hw
  | parts a y f' hta hy c0 hc hf =>
    subst hta
    exact refall_parts a n cap y f' ao hn hc c0 hf w (h.congr hy)
end Go.Proofs.Ytncbieaobadekaa
