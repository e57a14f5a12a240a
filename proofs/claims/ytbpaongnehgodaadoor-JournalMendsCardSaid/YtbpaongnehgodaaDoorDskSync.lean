/- The disk's Sync, walked (made by gen_dprog.py). -/
import Derived.Test.YtbpaongnehgodaaDoorDskRef
import Derived.Test.YtbpaongnehgodaaDoorDskOpS
namespace Go.Proofs.YtbpaongnehgodaaDoor
open Go.ChangeShapes Go.WideShapes Go.ChangeAt Go.RowKit
set_option maxHeartbeats 4000000 in
theorem dsync_any (s t : ByteArray) (f : Int) (d : Bool) (h : Small s t) (hf : -9223372036854775808 ≤ f ∧ f ≤ 9223372036854775807) (w : World) :
    Calls Tryd.prog 22 #[.agg #[.string s, .string t, .int .i64 f, .bool d]] w (Ret (opV s t f d 0 s t (s ++ t) ⟨#[]⟩) w) := by
  have HOP := Lib.hid (fun W => op_sync s t f d 0 h hf W)
  obtain ⟨S, T, F, D, E, he⟩ := opV_form s t f d 0 s t (s ++ t) ⟨#[]⟩
  rw [he] at HOP ⊢
  clear h hf he
  go_enter Tryd.func22, Tryd.ntmps22
  go_wp2_with fail
  refine (HOP.out _).mono ?_
  rintro e w2 ⟨rfl, h2⟩
  obtain ⟨_, hz2, hbw⟩ := box_two h2
  have HB2 := Lib.hid hbw
  obtain ⟨m0, m1, m2, m3⟩ := four_read hz2
  have l0 := four_free hz2 0
  have l1 := four_free hz2 1
  have l2 := four_free hz2 2
  have l3 := four_free hz2 3
  obtain ⟨⟨f0, f1⟩, f2, f3⟩ := four_cells hz2 (.string S) (.string T) (.int .i64 F) (.bool D)
  clear h2 hz2 hbw HOP
  go_wp2_with fail
  (try simp only [Exit.inBlock, Exit.then])
  refine bodyPost_ret (v := .tuple #[.agg #[.string S, .string T, .int .i64 F, .bool D], .int .i64 E]) (by simp [results, Tryd.results22, go_sem, f0, f1, f2, f3]) rfl ?_
  exact ⟨rfl, below_four HB2.out (by omega) _ _ _ _⟩
end Go.Proofs.YtbpaongnehgodaaDoor
