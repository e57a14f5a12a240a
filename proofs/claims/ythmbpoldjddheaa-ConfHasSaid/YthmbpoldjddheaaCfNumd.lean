/- numbered, Member, Sec (made by gen_cfh.py). -/
import Derived.Test.YthmbpoldjddheaaCfPlain
namespace Go.Proofs.Ythmbpoldjddheaa
open Go.ChangeShapes Go.WideShapes Go.ChangeAt Go.RowKit
theorem two_set {w : World} {g : Nat} {a b : Value} {ty : TypeId} (h : w.heap[g]? = some (.cells #[a, b] ty (0, 0))) (x y : Value) : ((w.setCell ⟨g, 0, none⟩ x).setCell ⟨g, 1, none⟩ y).heap[g]? = some (.cells #[x, y] ty (0, 0)) := by
  have h0 := set_heap (i := 0) (v := x) (cs' := #[x, b]) h rfl
  have h1 := set_heap (i := 1) (v := y) (cs' := #[x, y]) h0 rfl
  exact h1
theorem two_read {w : World} {g : Nat} {a b : Value} {ty : TypeId} (h : w.heap[g]? = some (.cells #[a, b] ty (0, 0))) : w.cell? ⟨g, 0, none⟩ = some a ∧ w.cell? ⟨g, 1, none⟩ = some b := by simp [World.cell?, h]
set_option maxHeartbeats 4000000 in
theorem numbM_in (ao : Option Addr) (n cap k : Nat) (a b : Nat → Int) (e : Int) (hn : n ≤ 9223372036854775807) (hk : k < n) (w : World) (h : Two w ao n a b) :
    Calls Try.prog 65 #[.slice ao n cap, .int .i64 ((k : Int) + 1), .int .i64 e] w (Ret (.tuple #[.agg #[.int .i64 (a k), .int .i64 (b k)], .int .i64 0]) w) := by
  obtain ⟨g, off, rfl, hg, hc⟩ := h (by omega)
  obtain ⟨c0, c1⟩ := hc k hk
  obtain ⟨x, hx⟩ : ∃ x, a k = x := ⟨_, rfl⟩
  obtain ⟨y, hy⟩ : ∃ y, b k = y := ⟨_, rfl⟩
  rw [hx] at c0 ⊢
  rw [hy] at c1 ⊢
  have HW : Hid (∀ W, Calls Try.prog 79 #[.int .i64 ((k : Int) + 1), .int .i64 1, .int .i64 (n : Nat)] W (RetS (.bool true) W)) := fun W => by
    have h := within_int ((k : Int) + 1) 1 (n : Nat) W
    rwa [show wi 1 (n : Nat) ((k : Int) + 1) = true by unfold wi; simp; omega] at h
  have e1 : (k : Int) + 1 - 1 = (k : Int) := by omega
  have e2 : wrap64 (k : Int) = (k : Int) := Go.IntWalk.wrap64_in _ (by omega)
  have e3 : IntKind.i64.wrap (k : Int) = (k : Int) := by unfold IntKind.wrap; simp [IntKind.signed, IntKind.bits]; omega
  have e4 : (k : Int) < (n : Int) := by omega
  have hb := (Below.refl w.heap.size w).alloc (Nat.le_refl _) (.cells #[.int .i64 0, .int .i64 0] 77)
  have d0 := (hb.cell (by exact hg)).trans c0
  have d1 := (hb.cell (by exact hg)).trans c1

  clear h hc hx hy hb hk hn
  go_enter Try.func65, Try.ntmps65
  go_wp2_with fail
  refine (HW.out _).mono ?_
  rintro e w1 ⟨rfl, rfl⟩
  go_wp2_with fail
  (try simp only [Exit.inBlock, Exit.then])
  refine bodyPost_ret (v := .tuple #[.agg #[.int .i64 x, .int .i64 y], .int .i64 0]) (by simp [results, Try.results65, go_sem]) rfl ?_
  exact ⟨rfl, by go_grown⟩
theorem numbM_out (ao : Option Addr) (n cap : Nat) (i e : Int) (hi : ¬ (1 ≤ i ∧ i ≤ n)) (w : World) :
    Calls Try.prog 65 #[.slice ao n cap, .int .i64 i, .int .i64 e] w (Ret (.tuple #[.agg #[.int .i64 0, .int .i64 0], .int .i64 e]) w) := by
  have HW : Hid (∀ W, Calls Try.prog 79 #[.int .i64 i, .int .i64 1, .int .i64 (n : Nat)] W (RetS (.bool false) W)) := fun W => by
    have h := within_int i 1 (n : Nat) W
    rwa [show wi 1 (n : Nat) i = false by unfold wi; rw [Bool.and_eq_false_iff]; simp; omega] at h
  clear hi
  go_enter Try.func65, Try.ntmps65
  go_wp2_with fail
  refine (HW.out _).mono ?_
  rintro e w1 ⟨rfl, rfl⟩
  go_wp2_with fail
  (try simp only [Exit.inBlock, Exit.then])
  refine bodyPost_ret (v := .tuple #[.agg #[.int .i64 0, .int .i64 0], .int .i64 e]) (by simp [results, Try.results65, go_sem]) rfl ?_
  exact ⟨rfl, by go_grown⟩
set_option maxHeartbeats 4000000 in
theorem numbS_in (ao : Option Addr) (n cap k : Nat) (a b : Nat → Int) (e : Int) (hn : n ≤ 9223372036854775807) (hk : k < n) (w : World) (h : Two w ao n a b) :
    Calls Try.prog 66 #[.slice ao n cap, .int .i64 ((k : Int) + 1), .int .i64 e] w (Ret (.tuple #[.agg #[.int .i64 (a k), .int .i64 (b k)], .int .i64 0]) w) := by
  obtain ⟨g, off, rfl, hg, hc⟩ := h (by omega)
  obtain ⟨c0, c1⟩ := hc k hk
  obtain ⟨x, hx⟩ : ∃ x, a k = x := ⟨_, rfl⟩
  obtain ⟨y, hy⟩ : ∃ y, b k = y := ⟨_, rfl⟩
  rw [hx] at c0 ⊢
  rw [hy] at c1 ⊢
  have HW : Hid (∀ W, Calls Try.prog 79 #[.int .i64 ((k : Int) + 1), .int .i64 1, .int .i64 (n : Nat)] W (RetS (.bool true) W)) := fun W => by
    have h := within_int ((k : Int) + 1) 1 (n : Nat) W
    rwa [show wi 1 (n : Nat) ((k : Int) + 1) = true by unfold wi; simp; omega] at h
  have e1 : (k : Int) + 1 - 1 = (k : Int) := by omega
  have e2 : wrap64 (k : Int) = (k : Int) := Go.IntWalk.wrap64_in _ (by omega)
  have e3 : IntKind.i64.wrap (k : Int) = (k : Int) := by unfold IntKind.wrap; simp [IntKind.signed, IntKind.bits]; omega
  have e4 : (k : Int) < (n : Int) := by omega
  have hb := (Below.refl w.heap.size w).alloc (Nat.le_refl _) (.cells #[.int .i64 0, .int .i64 0] 81)
  have d0 := (hb.cell (by exact hg)).trans c0
  have d1 := (hb.cell (by exact hg)).trans c1

  clear h hc hx hy hb hk hn
  go_enter Try.func66, Try.ntmps66
  go_wp2_with fail
  refine (HW.out _).mono ?_
  rintro e w1 ⟨rfl, rfl⟩
  go_wp2_with fail
  (try simp only [Exit.inBlock, Exit.then])
  refine bodyPost_ret (v := .tuple #[.agg #[.int .i64 x, .int .i64 y], .int .i64 0]) (by simp [results, Try.results66, go_sem]) rfl ?_
  exact ⟨rfl, by go_grown⟩
theorem numbS_out (ao : Option Addr) (n cap : Nat) (i e : Int) (hi : ¬ (1 ≤ i ∧ i ≤ n)) (w : World) :
    Calls Try.prog 66 #[.slice ao n cap, .int .i64 i, .int .i64 e] w (Ret (.tuple #[.agg #[.int .i64 0, .int .i64 0], .int .i64 e]) w) := by
  have HW : Hid (∀ W, Calls Try.prog 79 #[.int .i64 i, .int .i64 1, .int .i64 (n : Nat)] W (RetS (.bool false) W)) := fun W => by
    have h := within_int i 1 (n : Nat) W
    rwa [show wi 1 (n : Nat) i = false by unfold wi; rw [Bool.and_eq_false_iff]; simp; omega] at h
  clear hi
  go_enter Try.func66, Try.ntmps66
  go_wp2_with fail
  refine (HW.out _).mono ?_
  rintro e w1 ⟨rfl, rfl⟩
  go_wp2_with fail
  (try simp only [Exit.inBlock, Exit.then])
  refine bodyPost_ret (v := .tuple #[.agg #[.int .i64 0, .int .i64 0], .int .i64 e]) (by simp [results, Try.results66, go_sem]) rfl ?_
  exact ⟨rfl, by go_grown⟩
set_option maxHeartbeats 4000000 in
theorem member_any (c : CF) (i x y e : Int) (w : World) (hn : ∀ W, Below w.heap.size w W → Calls Try.prog 65 #[.slice c.am c.nm c.cm, .int .i64 i, .int .i64 9] W (Ret (.tuple #[.agg #[.int .i64 x, .int .i64 y], .int .i64 e]) W)) :
    Calls Try.prog 42 #[.agg #[.slice c.am c.nm c.cm, .slice c.au c.ns c.cs, .slice c.ac c.nc c.cc, .int .i64 c.li, .int .i64 c.ca, .int .i64 c.le, .int .i64 c.tr, .int .i64 c.bi], .int .i64 i] w (Ret (.tuple #[.agg #[.int .i64 x, .int .i64 y], .int .i64 e]) w) := by
  have HN := Lib.hid (hn ((w.alloc (.cells #[.slice c.am c.nm c.cm, .slice c.au c.ns c.cs, .slice c.ac c.nc c.cc, .int .i64 c.li, .int .i64 c.ca, .int .i64 c.le, .int .i64 c.tr, .int .i64 c.bi] 67)).alloc (.cells #[.int .i64 0, .int .i64 0] 77)) (((Below.refl _ _).alloc (Nat.le_refl _) _).alloc (by simp) _))
  clear hn
  go_enter Try.func42, Try.ntmps42
  go_wp2_with fail
  refine HN.out.mono ?_
  rintro e1 w1 ⟨rfl, h1⟩
  have hz := (h1.block (w.heap.size + 1) (lt_of_block (heap_second _ _ _ _))).trans (heap_second w _ _ _)
  have HB := Lib.hid ((((Below.refl w.heap.size w).alloc (Nat.le_refl _) (.cells #[.slice c.am c.nm c.cm, .slice c.au c.ns c.cs, .slice c.ac c.nc c.cc, .int .i64 c.li, .int .i64 c.ca, .int .i64 c.le, .int .i64 c.tr, .int .i64 c.bi] 67)).alloc (by simp) (.cells #[.int .i64 0, .int .i64 0] 77)).trans (h1.mono (by simp; omega)))
  obtain ⟨z0, z1⟩ := two_read hz
  have y0 := eight_free hz 0
  have y1 := eight_free hz 1
  obtain ⟨f0, f1⟩ := two_read (two_set hz (.int .i64 x) (.int .i64 y))
  clear h1 hz HN
  go_wp2_with fail
  (try simp only [Exit.inBlock, Exit.then])
  refine bodyPost_ret (v := .tuple #[.agg #[.int .i64 x, .int .i64 y], .int .i64 e]) (by simp [results, Try.results42, go_sem, f0, f1]) rfl ?_
  exact ⟨rfl, (HB.out.setCell (by simp) _).setCell (by simp) _⟩
set_option maxHeartbeats 4000000 in
theorem sec_any (c : CF) (i x y e : Int) (w : World) (hn : ∀ W, Below w.heap.size w W → Calls Try.prog 66 #[.slice c.au c.ns c.cs, .int .i64 i, .int .i64 10] W (Ret (.tuple #[.agg #[.int .i64 x, .int .i64 y], .int .i64 e]) W)) :
    Calls Try.prog 43 #[.agg #[.slice c.am c.nm c.cm, .slice c.au c.ns c.cs, .slice c.ac c.nc c.cc, .int .i64 c.li, .int .i64 c.ca, .int .i64 c.le, .int .i64 c.tr, .int .i64 c.bi], .int .i64 i] w (Ret (.tuple #[.agg #[.int .i64 x, .int .i64 y], .int .i64 e]) w) := by
  have HN := Lib.hid (hn ((w.alloc (.cells #[.slice c.am c.nm c.cm, .slice c.au c.ns c.cs, .slice c.ac c.nc c.cc, .int .i64 c.li, .int .i64 c.ca, .int .i64 c.le, .int .i64 c.tr, .int .i64 c.bi] 67)).alloc (.cells #[.int .i64 0, .int .i64 0] 81)) (((Below.refl _ _).alloc (Nat.le_refl _) _).alloc (by simp) _))
  clear hn
  go_enter Try.func43, Try.ntmps43
  go_wp2_with fail
  refine HN.out.mono ?_
  rintro e1 w1 ⟨rfl, h1⟩
  have hz := (h1.block (w.heap.size + 1) (lt_of_block (heap_second _ _ _ _))).trans (heap_second w _ _ _)
  have HB := Lib.hid ((((Below.refl w.heap.size w).alloc (Nat.le_refl _) (.cells #[.slice c.am c.nm c.cm, .slice c.au c.ns c.cs, .slice c.ac c.nc c.cc, .int .i64 c.li, .int .i64 c.ca, .int .i64 c.le, .int .i64 c.tr, .int .i64 c.bi] 67)).alloc (by simp) (.cells #[.int .i64 0, .int .i64 0] 81)).trans (h1.mono (by simp; omega)))
  obtain ⟨z0, z1⟩ := two_read hz
  have y0 := eight_free hz 0
  have y1 := eight_free hz 1
  obtain ⟨f0, f1⟩ := two_read (two_set hz (.int .i64 x) (.int .i64 y))
  clear h1 hz HN
  go_wp2_with fail
  (try simp only [Exit.inBlock, Exit.then])
  refine bodyPost_ret (v := .tuple #[.agg #[.int .i64 x, .int .i64 y], .int .i64 e]) (by simp [results, Try.results43, go_sem, f0, f1]) rfl ?_
  exact ⟨rfl, (HB.out.setCell (by simp) _).setCell (by simp) _⟩
end Go.Proofs.Ythmbpoldjddheaa
