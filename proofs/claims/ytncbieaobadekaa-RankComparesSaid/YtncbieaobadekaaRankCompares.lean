/- The law RankCompares answers true. -/
import Derived.Test.YtncbieaobadekaaRankAwake
import Derived.Test.YtncbieaobadekaaRankRefCmp
namespace Go.Proofs.Ytncbieaobadekaa
open Go.ChangeShapes Go.WideShapes Go.ChangeAt Go.RowKit
set_option maxHeartbeats 1000000 in
theorem compares_long (n cap m cap' l cap'' : Nat) (ao bo co : Option Addr) (hn : n ≤ 9223372036854775807) (hm : m ≤ 9223372036854775807) (hl : l ≤ 9223372036854775807) (h : 20 < n ∨ 20 < m ∨ 20 < l) (w : World) :
    Calls Try.prog 9 #[.slice ao n cap, .slice bo m cap', .slice co l cap''] w (Ret (.bool true) w) := by
  have HX := Lib.hid (awake_any w)
  by_cases h1 : 20 < n
  · have d1 : decide ((20 : Int) < n) = true := decide_eq_true (by omega)
    have d1' : decide (20 < n) = true := decide_eq_true h1
    clear h h1 hn hm hl
    go_enter Try.func9, Try.ntmps9
    go_wp2_with fail
    refine HX.out.mono ?_
    rintro e w1 ⟨rfl, h1⟩
    go_wp2
    go_ret
    exact ⟨rfl, h1⟩
  · have d1 : decide ((20 : Int) < n) = false := decide_eq_false (by omega)
    have d1' : decide (20 < n) = false := decide_eq_false h1
    by_cases h2 : 20 < m
    · have d2 : decide ((20 : Int) < m) = true := decide_eq_true (by omega)
      have d2' : decide (20 < m) = true := decide_eq_true h2
      clear h h1 h2 hn hm hl
      go_enter Try.func9, Try.ntmps9
      go_wp2_with fail
      refine HX.out.mono ?_
      rintro e w1 ⟨rfl, h1⟩
      go_wp2
      go_ret
      exact ⟨rfl, h1⟩
    · have d2 : decide ((20 : Int) < m) = false := decide_eq_false (by omega)
      have d2' : decide (20 < m) = false := decide_eq_false h2
      have d3 : decide ((20 : Int) < l) = true := decide_eq_true (by omega)
      have d3' : decide (20 < l) = true := decide_eq_true (by omega)
      clear h h1 h2 hn hm hl
      go_enter Try.func9, Try.ntmps9
      go_wp2_with fail
      refine HX.out.mono ?_
      rintro e w1 ⟨rfl, h1⟩
      go_wp2
      go_ret
      exact ⟨rfl, h1⟩
set_option maxHeartbeats 4000000 in
theorem compares_short (a b c : Key) (hn : a.n ≤ 20) (hm : b.n ≤ 20) (hl : c.n ≤ 20) (w : World) (h1 : IntsAt w a.ao a.n a.z) (h2 : IntsAt w b.ao b.n b.z) (h3 : IntsAt w c.ao c.n c.z) :
    Calls Try.prog 9 #[.slice a.ao a.n a.cap, .slice b.ao b.n b.cap, .slice c.ao c.n c.cap] w (Ret (.bool true) w) := by
  have HX := Lib.hid (fun W => awake_any W)
  have C : ∀ (p q : Key) (W : World), p.n ≤ 20 → q.n ≤ 20 → IntsAt W p.ao p.n p.z → IntsAt W q.ao q.n q.z → Calls Try.prog 37 #[.slice p.ao p.n p.cap, .slice q.ao q.n q.cap] W (RetS (.int .i64 (cmpK p q)) W) := fun p q W hp hq i1 i2 => by
    have := rcmp_any p.z q.z p.n p.cap q.n q.cap p.ao q.ao (by omega) (by omega) W i1 i2
    rwa [cmpK_Z] at this
  have Cab := Lib.hid (C a b w hn hm h1 h2)
  have Cbc := Lib.hid (C b c w hm hl h2 h3)
  have Cac := Lib.hid (C a c w hn hl h1 h3)
  have HR : Hid (Calls Try.prog 38 #[.slice a.ao a.n a.cap, .slice b.ao b.n b.cap] w (RetQ (.int .i64 (cmpK a b)) w)) := by
    have := refcmp_any a.z b.z a.n a.cap b.n b.cap a.ao b.ao (by omega) (by omega) w h1 h2
    rwa [cmpK_Z] at this
  have Cba : Hid (∀ q : Nat, Calls Try.prog 37 #[.slice b.ao b.n b.cap, .slice a.ao a.n a.cap] (w.drewN q) (RetS (.int .i64 (- cmpK a b)) (w.drewN q))) := fun q => by
    have := C b a (w.drewN q) hm hn h2 h1
    rwa [show cmpK b a = - cmpK a b from cmpL_swap _ _] at this
  have Caa : Hid (∀ q : Nat, Calls Try.prog 37 #[.slice a.ao a.n a.cap, .slice a.ao a.n a.cap] (w.drewN q) (RetS (.int .i64 0) (w.drewN q))) := fun q => by
    have := C a a (w.drewN q) hn hn h1 h1
    rwa [show cmpK a a = 0 from cmpL_self _] at this
  have t1 : cmpK a b ≤ 0 → cmpK b c ≤ 0 → cmpK a c ≤ 0 := cmpL_trans _ _ _
  have t2 : cmpK a b = 0 → cmpK a c = cmpK b c := fun h => by unfold cmpK at *; rw [cmpL_eq _ _ h]
  have bx : -1 ≤ cmpK a b ∧ cmpK a b ≤ 1 := by have := cmpL_three a.lst b.lst; unfold cmpK; omega
  obtain ⟨x, hx⟩ : ∃ x, x = cmpK a b := ⟨_, rfl⟩
  obtain ⟨y, hy⟩ : ∃ y, y = cmpK b c := ⟨_, rfl⟩
  obtain ⟨z, hz⟩ : ∃ z, z = cmpK a c := ⟨_, rfl⟩
  rw [← hx] at Cab HR Cba t1 t2 bx
  rw [← hy] at Cbc t1 t2
  rw [← hz] at Cac t1 t2
  have n1 : (a.n : Int) ≤ 20 := by omega
  have n2 : (b.n : Int) ≤ 20 := by omega
  have n3 : (c.n : Int) ≤ 20 := by omega
  have d1 : decide ((20 : Int) < a.n) = false := decide_eq_false (by omega)
  have d2 : decide ((20 : Int) < b.n) = false := decide_eq_false (by omega)
  have d3 : decide ((20 : Int) < c.n) = false := decide_eq_false (by omega)
  have d1' : decide (20 < a.n) = false := decide_eq_false (by omega)
  have d2' : decide (20 < b.n) = false := decide_eq_false (by omega)
  have d3' : decide (20 < c.n) = false := decide_eq_false (by omega)
  have b1 := bx.1
  have b2 := bx.2
  have e1 : (x != x) = false := by simp
  have e2 : (-x != -x) = false := by simp
  clear C hx hy hz h1 h2 h3 hn hm hl bx
  obtain ⟨k1, k2, k3, H1, H2⟩ : ∃ k1 k2 k3 : Bool, ((decide (0 < x) = true) ∨ (decide (0 < x) = false ∧ decide (0 < y) = true) ∨ (decide (0 < x) = false ∧ decide (0 < y) = false ∧ decide (z ≤ 0) = true)) ∧ ((x != 0) = true ∨ ((x != 0) = false ∧ (z == y) = true)) := by
    refine ⟨true, true, true, ?_, ?_⟩
    · by_cases p : 0 < x
      · exact Or.inl (decide_eq_true p)
      · by_cases q : 0 < y
        · exact Or.inr (Or.inl ⟨decide_eq_false p, decide_eq_true q⟩)
        · exact Or.inr (Or.inr ⟨decide_eq_false p, decide_eq_false q, decide_eq_true (t1 (by omega) (by omega))⟩)
    · by_cases p : x = 0
      · exact Or.inr ⟨by simp [p], by simp [t2 p]⟩
      · exact Or.inl (by simpa using p)
  clear t1 t2 k1 k2 k3
  rcases H1 with f1 | ⟨f1, f2⟩ | ⟨f1, f2, f3⟩
  all_goals rcases H2 with g1 | ⟨g1, g2⟩
  all_goals
    go_enter Try.func9, Try.ntmps9
    go_wp2_with fail
    refine Cab.out.mono ?_
    rintro e w1 ⟨rfl, rfl⟩
    go_wp2_with fail
    refine Cbc.out.mono ?_
    rintro e w1 ⟨rfl, rfl⟩
    go_wp2_with fail
    refine Cac.out.mono ?_
    rintro e w1 ⟨rfl, rfl⟩
    go_wp2_with fail
    refine HR.out.mono ?_
    rintro e w1 ⟨rfl, q, rfl⟩
    go_wp2_with fail
    refine (Cba.out q).mono ?_
    rintro e w1 ⟨rfl, rfl⟩
    go_wp2_with fail
    refine (Caa.out q).mono ?_
    rintro e w1 ⟨rfl, rfl⟩
    go_wp2_with fail
    refine (HX.out _).mono ?_
    rintro e w1 ⟨rfl, hw⟩
    go_wp2
    go_ret
    exact ⟨rfl, ⟨hw.os, hw.tape, hw.output, hw.size, hw.block⟩⟩
end Go.Proofs.Ytncbieaobadekaa
