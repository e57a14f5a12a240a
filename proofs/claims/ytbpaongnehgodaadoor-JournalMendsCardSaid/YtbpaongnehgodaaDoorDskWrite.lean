/- The disk's Write, walked (made by gen_dprog.py). -/
import Derived.Test.YtbpaongnehgodaaDoorDskRef
import Derived.Test.YtbpaongnehgodaaDoorDskOpW
namespace Go.Proofs.YtbpaongnehgodaaDoor
open Go.ChangeShapes Go.WideShapes Go.ChangeAt Go.RowKit
theorem box_three {w w1 : World} {cs cs' cs'' : Array Value} {ty ty' ty'' : TypeId} (h : Below (((w.alloc (.cells cs ty)).alloc (.cells cs' ty')).alloc (.cells cs'' ty'')).heap.size (((w.alloc (.cells cs ty)).alloc (.cells cs' ty')).alloc (.cells cs'' ty'')) w1) :
    w1.heap[w.heap.size]? = some (.cells cs ty (0, 0)) ∧ w1.heap[w.heap.size + 1]? = some (.cells cs' ty' (0, 0)) ∧ w1.heap[w.heap.size + 1 + 1]? = some (.cells cs'' ty'' (0, 0)) ∧ Below w.heap.size w w1 := by
  obtain ⟨h1, h2, h3⟩ := box_two (below_box h)
  refine ⟨h1, h2, ?_, h3⟩
  have := box_kept h
  rwa [World.size_alloc, World.size_alloc] at this
set_option maxHeartbeats 4000000 in
theorem dwrite_any (s t : ByteArray) (f : Int) (d : Bool) (h : Small s t) (hf : -9223372036854775808 ≤ f ∧ f ≤ 9223372036854775807) (x : ByteArray) (hx : x.size ≤ 4000) (w : World) :
    Calls Tryd.prog 21 #[.agg #[.string s, .string t, .int .i64 f, .bool d], .string x] w (Ret (opV s t f d 0 s (t ++ x) s (t ++ x)) w) := by
  have HFT := Lib.hid (fun W => fits_any s t x f d h hx W)
  have HOP := Lib.hid (fun c W hc => op_write s t f d 0 h hf x hx c W hc)
  obtain ⟨S, T, F, D, E, he⟩ := opV_form s t f d 0 s (t ++ x) s (t ++ x)
  rw [he] at HOP ⊢
  clear h hf hx he
  go_enter Tryd.func21, Tryd.ntmps21
  go_wp2_with fail
  refine (HFT.out _).mono ?_
  rintro e w1 ⟨rfl, h1⟩
  obtain ⟨hb1, hc1, hz1, hbw⟩ := box_three h1
  have HB := Lib.hid hbw
  have HC := Lib.hid hc1
  obtain ⟨k0, k1, k2, k3⟩ := four_read hb1
  clear h1 hb1 hbw hc1
  go_wp2_with fail
  refine (HOP.out _ _ HC.out).mono ?_
  rintro e w2 ⟨rfl, h2⟩
  have hz2 := (h2.block (w.heap.size + 1 + 1) (lt_of_block hz1)).trans hz1
  have HB2 := Lib.hid (HB.out.trans (h2.mono HB.out.size))
  obtain ⟨m0, m1, m2, m3⟩ := four_read hz2
  have l0 := four_free hz2 0
  have l1 := four_free hz2 1
  have l2 := four_free hz2 2
  have l3 := four_free hz2 3
  obtain ⟨⟨f0, f1⟩, f2, f3⟩ := four_cells hz2 (.string S) (.string T) (.int .i64 F) (.bool D)
  clear h2 hz1 hz2 k0 k1 k2 k3 HB HOP
  go_wp2_with fail
  (try simp only [Exit.inBlock, Exit.then])
  refine bodyPost_ret (v := .tuple #[.agg #[.string S, .string T, .int .i64 F, .bool D], .int .i64 E]) (by simp [results, Tryd.results21, go_sem, f0, f1, f2, f3]) rfl ?_
  exact ⟨rfl, below_four HB2.out (by omega) _ _ _ _⟩
end Go.Proofs.YtbpaongnehgodaaDoor
