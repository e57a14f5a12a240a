/- CodecPuts, walked. -/
import Derived.Test.YtbpaongnehgodaaCoTop
namespace Go.Proofs.Ytbpaongnehgodaa
open Go.ChangeShapes Go.WideShapes Go.ChangeAt Go.RowKit
theorem keepCB {w w1 : World} {g : Nat} {c : Cm} (h : CB w g c) (hb : Below w.heap.size w w1) : CB w1 g c := (hb.block _ (lt_of_block h)).trans h
set_option maxHeartbeats 4000000 in
theorem cputs_any (c : Cm) (hc : c.In) (w : World) : Calls Try.prog 3 #[cmv c] w (Ret (.bool true) w) := by
  have HP := Lib.hid (cput_top c hc)
  have HR := Lib.hid (rright_any c)
  have HC := Lib.hid (check_top c hc)
  have HA := Lib.hid awake11_any
  have HX := Lib.hid (fun w => (boxes1 w (.cells #[.int .i64 c.k, .int .i64 c.i, .int .i64 c.m, .int .i64 c.o, .int .i64 c.s, .int .i64 c.q, .int .i64 c.p] 23)))
  cases hr : rightV c with
  | false =>
    have e1 : putA c = .tuple #[.string ⟨#[]⟩, .int .i64 3] := by unfold putA; rw [hr]; rfl
    rw [e1] at HP
    rw [hr] at HR HC
    rw [if_neg (by decide)] at HC
    clear hr e1 hc
    go_enter Try.func3, Try.ntmps3
    go_wp2_with fail
    refine (HP.out _).mono ?_
    rintro e w1 ⟨rfl, h1⟩
    have X1 : Hid (CB w1 w.heap.size c) := box_of_below h1
    have B1 := Lib.hid (below_of_box h1)
    obtain ⟨k0, k1, k2, k3, k4, k5, k6⟩ := X1.out.cells
    clear h1
    go_wp2_with fail
    refine (HR.out _).mono ?_
    rintro e w2 ⟨rfl, h2⟩
    have X2 := Lib.hid (keepCB X1.out h2)
    have B2 : Hid (Below w.heap.size w w2) := B1.out.trans (h2.mono B1.out.size)
    clear h2 k0 k1 k2 k3 k4 k5 k6
    go_wp2_with fail
    refine (HA.out _).mono ?_
    rintro e w3 ⟨rfl, h3⟩
    have X3 := Lib.hid (keepCB X2.out h3)
    have B3 : Hid (Below w.heap.size w w3) := B2.out.trans (h3.mono B2.out.size)
    obtain ⟨k0, k1, k2, k3, k4, k5, k6⟩ := X3.out.cells
    clear h3
    go_wp2_with fail
    refine (HC.out _).mono ?_
    rintro e w4 ⟨rfl, h4⟩
    have B4 : Hid (Below w.heap.size w w4) := B3.out.trans (h4.mono B3.out.size)
    clear h4
    go_wp2_with fail
    go_ret
    exact ⟨rfl, B4.out⟩
  | true =>
    have e1 : putA c = .tuple #[txt (bytesC c), .int .i64 0] := by unfold putA; rw [if_pos hr]
    rw [e1] at HP
    rw [hr] at HR HC
    rw [if_pos rfl] at HC
    have HRP := Lib.hid (rput_any c hc)
    have hl : (bytesC c).length ≤ 1000 := by
      have h1 := encL_len (numsL_in c hc (lets c.k) (lets c.k).length)
      have h2 := lets_len c.k
      have h3 : (numsL c (lets c.k) (lets c.k).length).length ≤ 11 := by unfold numsL; simp; omega
      unfold bytesC
      omega
    have HG : Hid (∀ W, Calls Try.prog 12 #[txt (bytesC c)] W (Ret (.tuple #[cmv c, .int .i64 0]) W)) := fun W => by
      have h := cget_any ⟨(bytesC c).toArray⟩ (by show (bytesC c).length ≤ 1000000; omega) W
      have hb := read_bytes c hc hr []
      rw [List.append_nil] at hb
      have e : cgetV ⟨(bytesC c).toArray⟩ = .tuple #[cmv c, .int .i64 0] := by
        unfold cgetV getE
        rw [hb]
        rfl
      rwa [e] at h
    unfold txt at HP HG HRP
    obtain ⟨B, hB⟩ : ∃ B, bytesC c = B := ⟨_, rfl⟩
    rw [hB] at HP HG HRP
    have heq : ∀ W, (binOp .eql 23 (cmv c) (cmv c)).run Try.prog W = .ok (.bool true) W := fun W => by rw [run_eql_cm, cmEq_iff.2 rfl]
    clear hr e1 hc hl hB
    go_enter Try.func3, Try.ntmps3
    go_wp2_with fail
    refine (HP.out _).mono ?_
    rintro e w1 ⟨rfl, h1⟩
    have X1 : Hid (CB w1 w.heap.size c) := box_of_below h1
    have B1 := Lib.hid (below_of_box h1)
    obtain ⟨k0, k1, k2, k3, k4, k5, k6⟩ := X1.out.cells
    clear h1
    go_wp2_with fail
    refine (HR.out _).mono ?_
    rintro e w2 ⟨rfl, h2⟩
    have X2 := Lib.hid (keepCB X1.out h2)
    have B2 : Hid (Below w.heap.size w w2) := B1.out.trans (h2.mono B1.out.size)
    clear h2 k0 k1 k2 k3 k4 k5 k6
    go_wp2_with fail
    refine (HG.out _).mono ?_
    rintro e w3 ⟨rfl, h3⟩
    have X3 : Hid (CB (w3.alloc (.cells #[.int .i64 c.k, .int .i64 c.i, .int .i64 c.m, .int .i64 c.o, .int .i64 c.s, .int .i64 c.q, .int .i64 c.p] 23)) w.heap.size c) := alloc_keep (keepCB X2.out h3)
    have Y3 : Hid (CB (w3.alloc (.cells #[.int .i64 c.k, .int .i64 c.i, .int .i64 c.m, .int .i64 c.o, .int .i64 c.s, .int .i64 c.q, .int .i64 c.p] 23)) w3.heap.size c) := (HX.out w3).1
    have B3 : Hid (Below w.heap.size w (w3.alloc (.cells #[.int .i64 c.k, .int .i64 c.i, .int .i64 c.m, .int .i64 c.o, .int .i64 c.s, .int .i64 c.q, .int .i64 c.p] 23))) := by
      have hb := B2.out.trans (h3.mono B2.out.size)
      exact hb.alloc hb.size _
    clear h3
    go_wp2_with fail
    refine (HA.out _).mono ?_
    rintro e w4 ⟨rfl, h4⟩
    have X4 := Lib.hid (keepCB X3.out h4)
    have Y4 := Lib.hid (keepCB Y3.out h4)
    have B4 : Hid (Below w.heap.size w w4) := B3.out.trans (h4.mono B3.out.size)
    obtain ⟨k0, k1, k2, k3, k4, k5, k6⟩ := X4.out.cells
    clear h4
    go_wp2_with fail
    refine (HRP.out _).mono ?_
    rintro e w5 ⟨rfl, h5⟩
    have X5 := Lib.hid (keepCB X4.out h5)
    have Y5 := Lib.hid (keepCB Y4.out h5)
    have B5 : Hid (Below w.heap.size w w5) := B4.out.trans (h5.mono B4.out.size)
    obtain ⟨j0, j1, j2, j3, j4, j5, j6⟩ := X5.out.cells
    clear h5 k0 k1 k2 k3 k4 k5 k6
    go_wp2_with fail
    refine (HC.out _).mono ?_
    rintro e w6 ⟨rfl, h6⟩
    have X6 := Lib.hid (keepCB X5.out h6)
    have Y6 := Lib.hid (keepCB Y5.out h6)
    have B6 : Hid (Below w.heap.size w w6) := B5.out.trans (h6.mono B5.out.size)
    obtain ⟨k0, k1, k2, k3, k4, k5, k6⟩ := X6.out.cells
    obtain ⟨q0, q1, q2, q3, q4, q5, q6⟩ := Y6.out.cells
    clear h6 j0 j1 j2 j3 j4 j5 j6
    go_wp2_with fail
    go_ret
    exact ⟨rfl, B6.out⟩
end Go.Proofs.Ytbpaongnehgodaa
