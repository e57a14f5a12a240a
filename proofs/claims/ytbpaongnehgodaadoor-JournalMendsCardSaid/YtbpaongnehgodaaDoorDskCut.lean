/- The disk's Cut, walked (made by gen_dprog.py). -/
import Derived.Test.YtbpaongnehgodaaDoorDskRef
import Derived.Test.YtbpaongnehgodaaDoorDskOpC
import Derived.Test.YtbpaongnehgodaaDoorDskWrite
namespace Go.Proofs.YtbpaongnehgodaaDoor
open Go.ChangeShapes Go.WideShapes Go.ChangeAt Go.RowKit
theorem heap_mid (w : World) (o : Obj) (cs : Array Value) (ty : TypeId) (o' : Obj) : (((w.alloc o).alloc (.cells cs ty)).alloc o').heap[w.heap.size + 1]? = some (.cells cs ty (0, 0)) := by
  refine (Below.heap_alloc _ _ _ (by simp)).trans ?_
  have := heap_alloc_new (w.alloc o) (.cells cs ty)
  rwa [World.size_alloc] at this
set_option maxHeartbeats 4000000 in
theorem cut_w (s t : ByteArray) (f : Int) (d : Bool) (h : Small s t) (n : Int) (ht : t ≠ ⟨#[]⟩) (w : World) :
    Calls Tryd.prog 42 #[.agg #[.string s, .string t, .int .i64 f, .bool d], .int .i64 n] w (Ret (opV s t f d 1 s t s t) w) := by
  have n1 : (s.size : Int) ≤ 4000 := by have := h.1; omega
  have HOP := Lib.hid (fun c W => op_bad s t f d 1 h (by decide) c W)
  obtain ⟨g0, g1, g2, g3⟩ := tl_ne ht
  obtain ⟨S, T, F, D, E, he⟩ := opV_form s t f d 1 s t s t
  rw [he] at HOP ⊢
  clear h he
  go_enter Tryd.func42, Tryd.ntmps42
  go_wp2_with fail
  refine (HOP.out _ _).mono ?_
  rintro e w2 ⟨rfl, h2⟩
  obtain ⟨_, _, hz2, hbw⟩ := box_three h2
  have HB2 := Lib.hid hbw
  obtain ⟨m0, m1, m2, m3⟩ := four_read hz2
  have l0 := four_free hz2 0
  have l1 := four_free hz2 1
  have l2 := four_free hz2 2
  have l3 := four_free hz2 3
  obtain ⟨⟨f0, f1⟩, f2, f3⟩ := four_cells hz2 (.string S) (.string T) (.int .i64 F) (.bool D)
  clear h2 hz2 hbw HOP
  go_wp2_with fail
  (try simp only [Exit.inBlock, Exit.then])
  refine bodyPost_ret (v := .tuple #[.agg #[.string S, .string T, .int .i64 F, .bool D], .int .i64 E]) (by simp [results, Tryd.results42, go_sem, f0, f1, f2, f3]) rfl ?_
  exact ⟨rfl, below_four HB2.out (by omega) _ _ _ _⟩
set_option maxHeartbeats 4000000 in
theorem cut_l (s t : ByteArray) (f : Int) (d : Bool) (h : Small s t) (n : Int) (ht : t = ⟨#[]⟩) (hn : n < 0) (w : World) :
    Calls Tryd.prog 42 #[.agg #[.string s, .string t, .int .i64 f, .bool d], .int .i64 n] w (Ret (opV s t f d 1 s t s t) w) := by
  have n1 : (s.size : Int) ≤ 4000 := by have := h.1; omega
  have HOP := Lib.hid (fun c W => op_bad s t f d 1 h (by decide) c W)
  have g2 : decide (n < 0) = true := decide_eq_true hn
  obtain ⟨S, T, F, D, E, he⟩ := opV_form s t f d 1 s t s t
  rw [he] at HOP ⊢
  subst ht
  clear h he
  go_enter Tryd.func42, Tryd.ntmps42
  go_wp2_with fail
  refine (HOP.out _ _).mono ?_
  rintro e w2 ⟨rfl, h2⟩
  obtain ⟨_, _, hz2, hbw⟩ := box_three h2
  have HB2 := Lib.hid hbw
  obtain ⟨m0, m1, m2, m3⟩ := four_read hz2
  have l0 := four_free hz2 0
  have l1 := four_free hz2 1
  have l2 := four_free hz2 2
  have l3 := four_free hz2 3
  obtain ⟨⟨f0, f1⟩, f2, f3⟩ := four_cells hz2 (.string S) (.string T) (.int .i64 F) (.bool D)
  clear h2 hz2 hbw HOP
  go_wp2_with fail
  (try simp only [Exit.inBlock, Exit.then])
  refine bodyPost_ret (v := .tuple #[.agg #[.string S, .string T, .int .i64 F, .bool D], .int .i64 E]) (by simp [results, Tryd.results42, go_sem, f0, f1, f2, f3]) rfl ?_
  exact ⟨rfl, below_four HB2.out (by omega) _ _ _ _⟩
set_option maxHeartbeats 4000000 in
theorem cut_m (s t : ByteArray) (f : Int) (d : Bool) (h : Small s t) (n : Int) (ht : t = ⟨#[]⟩) (hn : 0 ≤ n) (hm : (s.size : Int) < n) (w : World) :
    Calls Tryd.prog 42 #[.agg #[.string s, .string t, .int .i64 f, .bool d], .int .i64 n] w (Ret (opV s t f d 1 s t s t) w) := by
  have n1 : (s.size : Int) ≤ 4000 := by have := h.1; omega
  have HOP := Lib.hid (fun c W => op_bad s t f d 1 h (by decide) c W)
  have g2 : decide (n < 0) = false := decide_eq_false (by omega)
  have g3 : decide ((s.size : Int) < n) = true := decide_eq_true hm
  obtain ⟨S, T, F, D, E, he⟩ := opV_form s t f d 1 s t s t
  rw [he] at HOP ⊢
  subst ht
  clear h he
  go_enter Tryd.func42, Tryd.ntmps42
  go_wp2_with fail
  refine (HOP.out _ _).mono ?_
  rintro e w2 ⟨rfl, h2⟩
  obtain ⟨_, _, hz2, hbw⟩ := box_three h2
  have HB2 := Lib.hid hbw
  obtain ⟨m0, m1, m2, m3⟩ := four_read hz2
  have l0 := four_free hz2 0
  have l1 := four_free hz2 1
  have l2 := four_free hz2 2
  have l3 := four_free hz2 3
  obtain ⟨⟨f0, f1⟩, f2, f3⟩ := four_cells hz2 (.string S) (.string T) (.int .i64 F) (.bool D)
  clear h2 hz2 hbw HOP
  go_wp2_with fail
  (try simp only [Exit.inBlock, Exit.then])
  refine bodyPost_ret (v := .tuple #[.agg #[.string S, .string T, .int .i64 F, .bool D], .int .i64 E]) (by simp [results, Tryd.results42, go_sem, f0, f1, f2, f3]) rfl ?_
  exact ⟨rfl, below_four HB2.out (by omega) _ _ _ _⟩
set_option maxHeartbeats 4000000 in
theorem cut_k (s t : ByteArray) (f : Int) (d : Bool) (h : Small s t) (hf : -9223372036854775808 ≤ f ∧ f ≤ 9223372036854775807) (k : Nat) (ht : t = ⟨#[]⟩) (hm : k ≤ s.size) (w : World) :
    Calls Tryd.prog 42 #[.agg #[.string s, .string t, .int .i64 f, .bool d], .int .i64 (k : Nat)] w (Ret (opV s t f d 0 s t (front s k) t) w) := by
  have n1 : (s.size : Int) ≤ 4000 := by have := h.1; omega
  have HOP := Lib.hid (fun c W hc => op_cut s t f d 0 h hf k hm c W hc)
  have g2 : decide ((k : Int) < 0) = false := decide_eq_false (by omega)
  have g3 : decide ((s.size : Int) < (k : Int)) = false := decide_eq_false (by omega)
  have g4 : decide (s.size < k) = false := decide_eq_false (by omega)
  obtain ⟨S, T, F, D, E, he⟩ := opV_form s t f d 0 s t (front s k) t
  rw [he] at HOP ⊢
  subst ht
  clear h hf he hm
  go_enter Tryd.func42, Tryd.ntmps42
  go_wp2_with fail
  refine (HOP.out _ _ (by exact heap_mid _ _ _ _ _)).mono ?_
  rintro e w2 ⟨rfl, h2⟩
  obtain ⟨_, _, hz2, hbw⟩ := box_three h2
  have HB2 := Lib.hid hbw
  obtain ⟨m0, m1, m2, m3⟩ := four_read hz2
  have l0 := four_free hz2 0
  have l1 := four_free hz2 1
  have l2 := four_free hz2 2
  have l3 := four_free hz2 3
  obtain ⟨⟨f0, f1⟩, f2, f3⟩ := four_cells hz2 (.string S) (.string T) (.int .i64 F) (.bool D)
  clear h2 hz2 hbw HOP
  go_wp2_with fail
  (try simp only [Exit.inBlock, Exit.then])
  refine bodyPost_ret (v := .tuple #[.agg #[.string S, .string T, .int .i64 F, .bool D], .int .i64 E]) (by simp [results, Tryd.results42, go_sem, f0, f1, f2, f3]) rfl ?_
  exact ⟨rfl, below_four HB2.out (by omega) _ _ _ _⟩
end Go.Proofs.YtbpaongnehgodaaDoor
