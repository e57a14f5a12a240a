/- ConfPlain, walked. -/
import Derived.Test.YthmbpoldjddheaaCfAwake
import Derived.Test.YthmbpoldjddheaaCfSame
namespace Go.Proofs.Ythmbpoldjddheaa
open Go.ChangeShapes Go.WideShapes Go.ChangeAt Go.RowKit
theorem plain_wrong (am au ac : Option Addr) (nm cm ns cs nc cc : Nat) (h1 : 2 ≤ nm ∧ nm ≤ 16) (h2 : 1 ≤ ns ∧ ns ≤ 8) (h3 : 1 ≤ nc ∧ nc ≤ 4) (w : World) (h : (plainC am au ac nm cm ns cs nc cc).At w) :
    Calls Try.prog 39 #[.agg #[.slice am nm cm, .slice au ns cs, .slice ac nc cc, .int .i64 500, .int .i64 200, .int .i64 1, .int .i64 64, .int .i64 32]] w (Ret (.string ⟨#[]⟩) w) := by
  have hw := wrong_any (plainC am au ac nm cm ns cs nc cc) w h
  rw [plain_word am au ac nm cm ns cs nc cc h1 h2 h3] at hw
  exact hw
set_option maxHeartbeats 8000000 in
set_option maxRecDepth 100000 in
theorem confplain_walk (a b d : Int) (w : World) (hrp : ∀ W, Calls Try.prog 47 #[.int .i64 a, .int .i64 b, .int .i64 d] W (fun e w' => Below W.heap.size W w' ∧ ∃ am au ac cm cs cc, e = .returned (.agg #[.slice am (nr a 2 16) cm, .slice au (nr b 1 8) cs, .slice ac (nr d 1 4) cc, .int .i64 500, .int .i64 200, .int .i64 1, .int .i64 64, .int .i64 32]) ∧ (plainC am au ac (nr a 2 16) cm (nr b 1 8) cs (nr d 1 4) cc).At w')) :
    Calls Try.prog 9 #[.int .i64 a, .int .i64 b, .int .i64 d] w (Ret (.bool true) w) := by
  have HRP := Lib.hid hrp
  have HPL := Lib.hid (plain_any a b d w)
  have HA := Lib.hid awake10_any
  have N1 := Lib.hid (nr_in a 2 16 (by decide))
  have N2 := Lib.hid (nr_in b 1 8 (by decide))
  have N3 := Lib.hid (nr_in d 1 4 (by decide))
  obtain ⟨nm, hnm⟩ : ∃ x, nr a 2 16 = x := ⟨_, rfl⟩
  obtain ⟨ns, hns⟩ : ∃ x, nr b 1 8 = x := ⟨_, rfl⟩
  obtain ⟨nc, hnc⟩ : ∃ x, nr d 1 4 = x := ⟨_, rfl⟩
  rw [hnm, hns, hnc] at HRP HPL
  rw [hnm] at N1
  rw [hns] at N2
  rw [hnc] at N3
  clear hnm hns hnc hrp
  go_enter Try.func9, Try.ntmps9
  go_wp2_with fail
  refine HPL.out.mono ?_
  rintro e w1 ⟨hb1, am, au, ac, cm, cs, cc, rfl, hat⟩
  have hb := (Below.refl w1.heap.size w1).alloc (Nat.le_refl _) (.cells #[.slice am nm cm, .slice au ns cs, .slice ac nc cc, .int .i64 500, .int .i64 200, .int .i64 1, .int .i64 64, .int .i64 32] 67)
  have HAT := Lib.hid (hat.below hb)
  have HB2 : Hid (Below w.heap.size w (w1.alloc (.cells #[.slice am nm cm, .slice au ns cs, .slice ac nc cc, .int .i64 500, .int .i64 200, .int .i64 1, .int .i64 64, .int .i64 32] 67))) := hb1.trans (hb.mono hb1.size)
  have HC : Hid ((w1.alloc (.cells #[.slice am nm cm, .slice au ns cs, .slice ac nc cc, .int .i64 500, .int .i64 200, .int .i64 1, .int .i64 64, .int .i64 32] 67)).heap[w1.heap.size]? = some (.cells #[.slice am nm cm, .slice au ns cs, .slice ac nc cc, .int .i64 500, .int .i64 200, .int .i64 1, .int .i64 64, .int .i64 32] 67 (0, 0))) := heap_alloc_new _ _
  clear hb1 hb hat HPL
  go_wp2_with fail
  generalize w1.alloc (.cells #[.slice am nm cm, .slice au ns cs, .slice ac nc cc, .int .i64 500, .int .i64 200, .int .i64 1, .int .i64 64, .int .i64 32] 67) = w2 at *
  obtain ⟨x0, x1, x2, x3, x4, x5, x6, x7⟩ := eight_read HC.out
  go_region_held3 (fun w' => w'.cell? ⟨w1.heap.size, 0, none⟩ = some (.slice am nm cm) ∧ w'.cell? ⟨w1.heap.size, 1, none⟩ = some (.slice au ns cs) ∧ w'.cell? ⟨w1.heap.size, 2, none⟩ = some (.slice ac nc cc) ∧ w'.cell? ⟨w1.heap.size, 3, none⟩ = some (.int .i64 500) ∧ w'.cell? ⟨w1.heap.size, 4, none⟩ = some (.int .i64 200) ∧ w'.cell? ⟨w1.heap.size, 5, none⟩ = some (.int .i64 1) ∧ w'.cell? ⟨w1.heap.size, 6, none⟩ = some (.int .i64 64) ∧ w'.cell? ⟨w1.heap.size, 7, none⟩ = some (.int .i64 32)) (go_keep) (first | (go_at_call 36; refine (HA.out _).mono ?_; rintro e w3 ⟨rfl, h3⟩; (have g3 : Below w2.heap.size w2 w3 := (Below.refl _ _).drew.trans h3); (have HB3 := Lib.hid (HB2.out.trans (g3.mono HB2.out.size))); (have HC3 := Lib.hid (keepB HC.out g3)); obtain ⟨p0, p1, p2, p3, p4, p5, p6, p7⟩ := eight_read HC3.out; (have HAT3 := Lib.hid (HAT.out.below g3)); clear h3 g3) | (go_at_call 47; refine (HRP.out _).mono ?_; rintro e w4 ⟨h4, am', au', ac', cm', cs', cc', rfl, hat'⟩; (have HB4 := Lib.hid (HB3.out.trans (h4.mono HB3.out.size))); (have HC4 := Lib.hid (keepB HC3.out h4)); obtain ⟨q0, q1, q2, q3, q4, q5, q6, q7⟩ := eight_read HC4.out; (have HAT4 := Lib.hid (HAT3.out.below h4)); (have HSM := Lib.hid (show Calls Try.prog 45 #[.agg #[.slice am nm cm, .slice au ns cs, .slice ac nc cc, .int .i64 500, .int .i64 200, .int .i64 1, .int .i64 64, .int .i64 32], .agg #[.slice am' nm cm', .slice au' ns cs', .slice ac' nc cc', .int .i64 500, .int .i64 200, .int .i64 1, .int .i64 64, .int .i64 32]] w4 (Ret (.bool true) w4) from same10_any (plainC am au ac nm cm ns cs nc cc) am' au' ac' cm' cs' cc' w4 HAT4.out hat'.m hat'.u hat'.y)); clear h4 hat') | (go_at_call 45; refine HSM.out.mono ?_; rintro e w5 ⟨rfl, h5⟩; (have HB5 := Lib.hid (HB4.out.trans (h5.mono HB4.out.size))); (have HC5 := Lib.hid (keepB HC4.out h5)); obtain ⟨r0, r1, r2, r3, r4, r5, r6, r7⟩ := eight_read HC5.out; (have HAT5 := Lib.hid (HAT4.out.below h5)); (have HWR := Lib.hid (plain_wrong am au ac nm cm ns cs nc cc N1.out N2.out N3.out w5 HAT5.out)); clear h5) | (go_at_call 39; refine HWR.out.mono ?_; rintro e w6 ⟨rfl, h6⟩; (have HB6 := Lib.hid (HB5.out.trans (h6.mono HB5.out.size))); (have HC6 := Lib.hid (keepB HC5.out h6)); obtain ⟨s0, s1, s2, s3, s4, s5, s6, s7⟩ := eight_read HC6.out; clear h6))
  all_goals
    go_wp2_with fail
    go_ret
    exact ⟨rfl, HB6.out⟩
end Go.Proofs.Ythmbpoldjddheaa
