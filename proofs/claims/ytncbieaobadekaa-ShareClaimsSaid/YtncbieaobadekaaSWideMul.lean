/- complineref02.Mul tells the product of two words, in digits: for every two words. -/
import Derived.Test.YtncbieaobadekaaSWideRefs
import Derived.RegionTactic
import Derived.ChangeAlike
import Derived.BigRegion
import Derived.Lib.Hide
import Derived.WalkSmall
import Derived.OneCell
namespace Go.Proofs.Ytncbieaobadekaa
open Go.ChangeShapes Go.WideShapes Go.ChangeAt Go.RowKit
def MSt (a b i k B T : Nat) (W wr : World) (f : Nat → Nat) : Prop := Part a b i k f ∧ wr.heap[B]? = some (.cells (row8 f) T (0, 0)) ∧ Below B W wr
theorem MSt.next {a b i k B T : Nat} {W wr : World} {f : Nat → Nat} (h : MSt a b i k B T W wr f) (hk : k < 4) (hi : i < 4) :
    MSt a b i (k + 1) B T W (wr.setCell ⟨B, i + k, none⟩ (.int .u64 ((f (i + k) : Int) + (dg a i : Int) * (dg b k : Int)))).drew (upd f (i + k) (f (i + k) + dg a i * dg b k)) := by
  obtain ⟨h1, h2, h3⟩ := h
  have e : ((f (i + k) : Int) + (dg a i : Int) * (dg b k : Int)) = ((f (i + k) + dg a i * dg b k : Nat) : Int) := by rw [Int.natCast_add, Int.natCast_mul]
  refine ⟨h1.next hk hi, ?_, (h3.setCell (by exact Nat.le_refl _) _).drew⟩
  rw [e]
  exact row8_store h2 _ _ (by omega)
def CSt (N j B T : Nat) (W wr : World) (g : Nat → Nat) (c : Nat) : Prop := Carry N j g c ∧ wr.heap[B]? = some (.cells (row8 g) T (0, 0)) ∧ Below B W wr
theorem CSt.next {N j c B T : Nat} {W wr : World} {g : Nat → Nat} (h : CSt N j B T W wr g c) (hj : j < 8) :
    CSt N (j + 1) B T W ((wr.setCell ⟨B, j, none⟩ (.int .u64 ((g j : Int) + (c : Int)))).setCell ⟨B, j, none⟩ (.int .u64 (bits .and .u64 ((g j : Int) + (c : Int)) 65535))) (upd g j ((g j + c) % 65536)) ((g j + c) / 65536) := by
  obtain ⟨h1, h2, h3⟩ := h
  have l1 := h1.le j
  have l2 := h1.cle
  have e : ((g j : Int) + (c : Int)) = ((g j + c : Nat) : Int) := by rw [Int.natCast_add]
  refine ⟨h1.next hj, ?_, (h3.setCell (by exact Nat.le_refl _) _).setCell (by exact Nat.le_refl _) _⟩
  rw [e, and16 _ (by omega), ← upd_upd g j (g j + c)]
  exact row8_store (row8_store h2 _ _ hj) _ _ hj
theorem Part.carry {a b : Nat} {f : Nat → Nat} (h : Part a b 4 0 f) (ha : a < 18446744073709551616) : Carry (a * b) 0 f 0 :=
  ⟨by omega, by rw [Nat.zero_mul, Nat.add_zero]; exact h.done ha, fun i hi => absurd hi (Nat.not_lt_zero i), fun i => by have := h.le i; omega, by omega⟩
def YBlk (b T : Nat) : Obj := .cells #[.int .u64 (dg b 0 : Nat), .int .u64 (dg b 1 : Nat), .int .u64 (dg b 2 : Nat), .int .u64 (dg b 3 : Nat), .int .u64 (dg b 4 : Nat), .int .u64 (dg b 5 : Nat), .int .u64 (dg b 6 : Nat), .int .u64 (dg b 7 : Nat)] T
theorem four_of {j : Nat} (h : j < 4) : j = 0 ∨ j = 1 ∨ j = 2 ∨ j = 3 := by omega
set_option maxHeartbeats 1000000 in
theorem mul_any (a b : Nat) (h1 : a < 18446744073709551616) (h2 : b < 18446744073709551616) (w : World) :
    Calls Try.prog 55 #[.int .u64 a, .int .u64 b] w (Ret (numV (a * b)) w) := by
  go_enter Try.func55, Try.ntmps55
  go_wp2_with fail
  refine (of_lo a h1 _).mono ?_
  rintro e w1 ⟨rfl, hb1⟩
  unfold numV
  go_wp2_with fail
  refine (of_lo b h2 _).mono ?_
  rintro e w2 ⟨rfl, hb2⟩
  unfold numV
  go_wp2
  have hx : ∀ j, j < 4 → w2.cell? ⟨w1.heap.size, j, none⟩ = some (.int .u64 (dg a j : Nat)) := fun j hj => by
    rw [hb2.cell (by simp)]
    rcases four_of hj with rfl | rfl | rfl | rfl <;> go_cell
  have hz : w1.heap.size < w2.heap.size := by have := hb2.size; simp at this; omega
  have hz0 : w.heap.size + 1 ≤ w1.heap.size := by have := hb1.size; simp at this; omega
  have hB0 : Below w.heap.size w w2 := ((Below.refl _ _).alloc (Nat.le_refl _) _).trans ((hb1.mono (by simp)).trans (((Below.refl _ _).alloc (Nat.le_refl _) _).trans (hb2.mono (by simp)) |>.mono (by omega)))
  have HZ := Lib.hid (show w2.heap[w.heap.size]? = some (.cells (row8 (fun _ => 0)) 82 (0, 0)) from by
    rw [hb2.block _ (by simp; omega), Below.heap_alloc _ _ _ (by omega), hb1.block _ (by simp)]
    exact heap_alloc_new _ _)
  clear hb1 hb2
  have HX := Lib.hid hx
  clear hx
  go_loopw [8] (fun iv wr => ∃ i f, iv = .int .i64 (i : Nat) ∧ MSt a b i 0 (w2.heap.size + 1) 82 ((w2.alloc (YBlk b 82)).alloc (.cells (row8 (fun _ => 0)) 82)) wr f) (fun iv _ => 4 - (intOf iv).toNat)
  case atStart =>
    exact ⟨0, fun _ => 0, rfl, Part.start _ _ _ (fun _ => rfl), by rw [show w2.heap.size + 1 = (w2.alloc (YBlk b 82)).heap.size from by simp]; exact heap_alloc_new _ _, Below.refl _ _⟩
  case round =>
    obtain ⟨i, f, rfl, hM⟩ := hrel
    have hi4 := hM.1.i4
    by_cases hlt : i < 4
    · go_wp2
      obtain ⟨wo, rfl⟩ : ∃ wo : World, wo = wr := ⟨_, rfl⟩
      go_loopw [9] (fun kv wr => ∃ k f, kv = .int .i64 (k : Nat) ∧ MSt a b i k (w2.heap.size + 1) 82 ((w2.alloc (YBlk b 82)).alloc (.cells (row8 (fun _ => 0)) 82)) wr f) (fun kv _ => 4 - (intOf kv).toNat)
      case atStart => exact ⟨0, f, rfl, hM⟩
      case round =>
        clear hM
        obtain ⟨k, f, rfl, hM⟩ := hrel
        have hk4 := hM.1.k4
        by_cases hlk : k < 4
        · have c1 := row8_cell hM.2.1 (i + k) (by omega)
          have c2 := row8_free hM.2.1 (i + k)
          have c3 : wr.cell? ⟨w1.heap.size, i, none⟩ = some (.int .u64 (dg a i : Nat)) := by
            rw [hM.2.2.cell (by simp; omega)]
            have := HX.out i hlt
            go_cell
          have c4 : wr.cell? ⟨w2.heap.size, k, none⟩ = some (.int .u64 (dg b k : Nat)) := by
            rw [hM.2.2.cell (by simp)]
            rcases four_of hlk with rfl | rfl | rfl | rfl <;> (simp only [YBlk]; go_cell)
          have b1 := pb (dg_lt a i) (dg_lt b k)
          have b2 := @pb0 (dg a i) (dg b k)
          have b3 : (f (i + k) : Int) ≤ 100000000000 := by
            have := hM.1.le (i + k)
            have : 4294836225 * (4 * i + k) ≤ 4294836225 * 20 := Nat.mul_le_mul_left _ (by omega)
            omega
          go_wp2
          go_region
          go_wp2
          go_roundw
          case rel => exact ⟨k + 1, _, by go_num, hM.next hlk hlt⟩
          case measure => simp [intOf]; omega
        · obtain rfl : k = 4 := by omega
          go_wp2
          go_roundw
          case rel => exact ⟨i + 1, f, by go_num, hM.1.row h2 hlt, hM.2⟩
          case measure => simp [intOf]; omega
    · obtain rfl : i = 4 := by omega
      go_wp2
      go_loopw [10, 11] (fun cv jv wr => ∃ j g c, cv = .int .u64 (c : Nat) ∧ jv = .int .i64 (j : Nat) ∧ CSt (a * b) j (w2.heap.size + 1) 82 ((w2.alloc (YBlk b 82)).alloc (.cells (row8 (fun _ => 0)) 82)) wr g c) (fun _ jv _ => 8 - (intOf jv).toNat)
      case atStart => exact ⟨0, f, 0, rfl, rfl, hM.1.carry h1, hM.2⟩
      case round =>
        clear hM
        obtain ⟨j, g, c, rfl, rfl, hC⟩ := hrel
        have hj8 := hC.1.j8
        by_cases hlj : j < 8
        · have c1 := row8_cell hC.2.1 j hlj
          have c2 := row8_free hC.2.1 j
          have b1 : (g j : Int) ≤ 100000000000 := by have := hC.1.le j; omega
          have b2 : (c : Int) ≤ 100000000000 := by have := hC.1.cle; omega
          go_wp2
          go_roundw
          case rel => exact ⟨j + 1, _, _, by go_num, by go_num, hC.next hlj⟩
          case measure => simp [intOf]; omega
        · obtain rfl : j = 8 := by omega
          have hz9 : wr.heap[w.heap.size]? = some (.cells (row8 (fun _ => 0)) 82 (0, 0)) := by
            rw [hC.2.2.block _ (by omega), Below.heap_alloc _ _ _ (by simp; omega), Below.heap_alloc _ _ _ (by omega)]
            exact HZ.out
          have g0 := row8_cell hC.2.1 0 (by omega)
          have z0 := row8_cell hz9 0 (by omega)
          have y0 := row8_free hz9 0
          have g1 := row8_cell hC.2.1 1 (by omega)
          have z1 := row8_cell hz9 1 (by omega)
          have y1 := row8_free hz9 1
          have g2 := row8_cell hC.2.1 2 (by omega)
          have z2 := row8_cell hz9 2 (by omega)
          have y2 := row8_free hz9 2
          have g3 := row8_cell hC.2.1 3 (by omega)
          have z3 := row8_cell hz9 3 (by omega)
          have y3 := row8_free hz9 3
          have g4 := row8_cell hC.2.1 4 (by omega)
          have z4 := row8_cell hz9 4 (by omega)
          have y4 := row8_free hz9 4
          have g5 := row8_cell hC.2.1 5 (by omega)
          have z5 := row8_cell hz9 5 (by omega)
          have y5 := row8_free hz9 5
          have g6 := row8_cell hC.2.1 6 (by omega)
          have z6 := row8_cell hz9 6 (by omega)
          have y6 := row8_free hz9 6
          have g7 := row8_cell hC.2.1 7 (by omega)
          have z7 := row8_cell hz9 7 (by omega)
          have y7 := row8_free hz9 7
          have HN := Lib.hid (hC.1.ends (by have := Nat.mul_lt_mul'' h1 h2; simpa using this))
          have HB := Lib.hid hC.2.2
          clear hz9 hC
          go_wp2
          have hB1 := hB0.trans ((((Below.refl _ _).alloc (Nat.le_refl _) _).alloc (by simp) _).trans (HB.out.mono (by omega)) |>.mono (by omega))
          refine bodyPost_ret (v := .agg (row8 g)) (by simp [results, Try.results55, go_sem, z0, z1, z2, z3, z4, z5, z6, z7, row8]) rfl ⟨by rw [HN.out], ?_⟩
          go_grown
end Go.Proofs.Ytncbieaobadekaa
