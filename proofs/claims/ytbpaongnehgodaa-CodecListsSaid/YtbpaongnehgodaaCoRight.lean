/- The document's Right. -/
import Derived.Test.YtbpaongnehgodaaCoEq
import Derived.Deep.RegionWith
import Derived.Deep.RegionLaw
namespace Go.Proofs.Ytbpaongnehgodaa
open Go.ChangeShapes Go.WideShapes Go.ChangeAt Go.RowKit
/-- What is left of a command without what the first letters say. -/
def restC (c : Cm) (L : List UInt8) (j : Nat) : Cm := (L.take j).foldl (fun c x => withL c x.toNat 0) { c with k := 0 }
theorem restC_succ (c : Cm) (L : List UInt8) (j : Nat) (h : j < L.length) : restC c L (j + 1) = withL (restC c L j) (L[j]).toNat 0 := by
  unfold restC
  rw [← List.take_append_getElem h, List.foldl_append]
  rfl
set_option maxHeartbeats 4000000 in
theorem right_in (c : Cm) (L : List UInt8) (hL : L.length ≤ 10) (hq : L ≠ [63]) (hH : ∀ W, Calls Try.prog 26 #[.int .i64 c.k] W (Ret (txt L) W)) (w : World) :
    Calls Try.prog 9 #[cmv c] w (Ret (.bool (cmEq (restC c L L.length) zeroC)) w) := by
  have HH := Lib.hid hH
  have HW := Lib.hid rwith_any
  have hn : (L.length : Int) ≤ 10 := by omega
  have hs : ByteArray.size ⟨L.toArray⟩ = L.length := rfl
  have HS := Lib.hid (restC_succ c L)
  clear hH hL
  unfold txt at HH
  have d0 : (L == [63]) = false := by rw [beq_eq_false_iff_ne]; exact hq
  clear hq
  go_enter Try.func9, Try.ntmps9
  go_wp2_with fail
  refine (HH.out _).mono ?_
  rintro e w1 ⟨rfl, h1⟩
  have x1 : CB w1 w.heap.size c := box_of_below h1
  have b1 := below_of_box h1
  obtain ⟨k0, k1, k2, k3, k4, k5, k6⟩ := x1.cells
  clear h1
  go_wp2_with fail
  have HW1 : Hid (w.heap.size ≤ w1.heap.size) := b1.size
  go_loopw [5] (fun iv wr => ∃ j : Nat, j ≤ L.length ∧ iv = .int .i64 j ∧ CB wr w1.heap.size (restC c L j) ∧ Below w.heap.size w wr) (fun iv _ => L.length - (intOf iv).toNat)
  case atStart => exact ⟨0, Nat.zero_le _, rfl, (boxes1 w1 _).1, b1.alloc b1.size _⟩
  case round =>
    obtain ⟨j, hj, rfl, hcb, hbel⟩ := hrel
    have hj2 : (j : Int) ≤ L.length := by omega
    obtain ⟨C, hC⟩ : ∃ C, restC c L j = C := ⟨_, rfl⟩
    by_cases hlt : j < L.length
    · have hlt2 : (j : Int) < L.length := by omega
      have HSJ := Lib.hid (HS.out j hlt)
      rw [hC] at HSJ hcb
      obtain ⟨m0, m1, m2, m3, m4, m5, m6⟩ := hcb.cells
      have F := hcb.free
      have f0 := F 0
      have f1 := F 1
      have f2 := F 2
      have f3 := F 3
      have f4 := F 4
      have f5 := F 5
      have f6 := F 6
      have HWJ : Hid (∀ W, Calls Try.prog 27 #[cmv C, .int .u8 ((((⟨L.toArray⟩ : ByteArray)[j]'hlt).toNat : Nat) : Int), .int .i64 0] W (Ret (cmv (withL C (L[j]).toNat 0)) W)) := fun W => HW.out C (L[j]).toNat 0 W
      obtain ⟨D, hD⟩ : ∃ D, withL C (L[j]).toNat 0 = D := ⟨_, rfl⟩
      rw [hD] at HWJ HSJ
      have HCB := Lib.hid hcb
      have HLT : Hid (w1.heap.size < wr.drew.heap.size) := lt_of_block hcb
      have HBL := Lib.hid hbel
      clear F hcb hbel hC hD
      go_wp2_with fail
      go_region_with ((go_at_call 27; refine (HWJ.out _).mono ?_; rintro e w2 ⟨rfl, h2⟩; (have c2 : CB w2 w1.heap.size C := (h2.block _ HLT.out).trans HCB.out); obtain ⟨p0, p1, p2, p3, p4, p5, p6⟩ := c2.cells; (have F2 := c2.free); (have g0 := F2 0); (have g1 := F2 1); (have g2 := F2 2); (have g3 := F2 3); (have g4 := F2 4); (have g5 := F2 5); (have g6 := F2 6); (have HC2 := Lib.hid c2); (have HB2 : Hid (Below w.heap.size w w2) := HBL.out.trans (((Below.refl wr.heap.size wr).drew.trans h2).mono HBL.out.size)); clear F2 h2 c2))
      all_goals
        go_wp2_with fail
        go_roundw
        case rel => exact ⟨j + 1, by omega, by go_num, by rw [HSJ.out]; exact seven_set HC2.out _ _ _ _ _ _ _, (((((((HB2.out).setCell (by exact HW1.out) _).setCell (by exact HW1.out) _).setCell (by exact HW1.out) _).setCell (by exact HW1.out) _).setCell (by exact HW1.out) _).setCell (by exact HW1.out) _).setCell (by exact HW1.out) _⟩
        case measure => simp [intOf]; omega
    · have heq : j = L.length := by omega
      subst heq
      have hlt2 : ¬ ((L.length : Nat) : Int) < L.length := by omega
      rw [hC] at hcb
      obtain ⟨m0, m1, m2, m3, m4, m5, m6⟩ := hcb.cells
      have HBL := Lib.hid hbel
      have hq : ∀ W, (binOp .eql 23 (.agg #[.int .i64 C.k, .int .i64 C.i, .int .i64 C.m, .int .i64 C.o, .int .i64 C.s, .int .i64 C.q, .int .i64 C.p]) (.agg #[.int .i64 0, .int .i64 0, .int .i64 0, .int .i64 0, .int .i64 0, .int .i64 0, .int .i64 0])).run Try.prog W = .ok (.bool (cmEq C zeroC)) W := fun W => run_eql_cm C zeroC W
      obtain ⟨B, hB⟩ : ∃ B, cmEq C zeroC = B := ⟨_, rfl⟩
      rw [hB] at hq
      clear hcb hbel
      go_wp2_with fail
      go_ret
      exact ⟨rfl, HBL.out⟩
theorem right_out (c : Cm) (hH : ∀ W, Calls Try.prog 26 #[.int .i64 c.k] W (Ret (txt [63]) W)) (w : World) :
    Calls Try.prog 9 #[cmv c] w (Ret (.bool false) w) := by
  have HH := Lib.hid hH
  clear hH
  unfold txt at HH
  go_enter Try.func9, Try.ntmps9
  go_wp2_with fail
  refine (HH.out _).mono ?_
  rintro e w1 ⟨rfl, h1⟩
  have b1 := below_of_box h1
  clear h1
  go_wp2_with fail
  go_ret
  exact ⟨rfl, b1⟩
end Go.Proofs.Ytbpaongnehgodaa
