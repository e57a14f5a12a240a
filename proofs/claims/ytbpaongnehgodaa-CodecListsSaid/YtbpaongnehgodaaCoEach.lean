/- each: a command's values are set, one after the other, by whatever closure. -/
import Derived.Test.YtbpaongnehgodaaCoBase
namespace Go.Proofs.Ytbpaongnehgodaa
open Go.ChangeShapes Go.WideShapes Go.ChangeAt Go.RowKit
theorem co_set {w : World} {g i : Nat} {v : Value} {cs cs' : Array Value} {ty : TypeId} (h : w.heap[g]? = some (.cells cs ty (0, 0))) (e : cs.set! i v = cs') : (w.setCell ⟨g, i, none⟩ v).heap[g]? = some (.cells cs' ty (0, 0)) := by
  subst e
  simp only [World.setCell, Array.getElem?_modify]
  rw [if_pos trivial, h]
  rfl
theorem co_other {w : World} {g k i : Nat} {v : Value} {b : Option Obj} (h : w.heap[g]? = b) (hne : g ≠ k) : (w.setCell ⟨k, i, none⟩ v).heap[g]? = b := by
  rw [← h]
  exact Below.heap_setCell _ _ _ _ hne
theorem CB.cells {w : World} {g : Nat} {c : Cm} (h : CB w g c) :
    w.cell? ⟨g, 0, none⟩ = some (.int .i64 c.k) ∧ w.cell? ⟨g, 1, none⟩ = some (.int .i64 c.i) ∧ w.cell? ⟨g, 2, none⟩ = some (.int .i64 c.m) ∧ w.cell? ⟨g, 3, none⟩ = some (.int .i64 c.o) ∧ w.cell? ⟨g, 4, none⟩ = some (.int .i64 c.s) ∧ w.cell? ⟨g, 5, none⟩ = some (.int .i64 c.q) ∧ w.cell? ⟨g, 6, none⟩ = some (.int .i64 c.p) := by
  unfold CB at h
  simp [World.cell?, h]
theorem CB.free {w : World} {g : Nat} {c : Cm} (h : CB w g c) (i : Nat) : w.frozen? ⟨g, i, none⟩ = false := by
  unfold CB at h
  simp [World.frozen?, h]
/-- What a closure does: σ is what it keeps. -/
structure SetOk {σ : Type} (gf : Nat) (caps : Array Value) (g : Nat) (Inv : Nat → World → σ → Prop) (stp : σ → Int → Int → Int × σ) : Prop where
  enter : ∀ args w, (callFunc gf args).run Try.prog w = .ok (.enter gf args) w
  calls : ∀ j W x c, j < 6 → Inv j W x → CB W g c → ∀ (b n : Int), -9223372036854775808 ≤ n ∧ n ≤ 9223372036854775807 → Calls Try.prog gf (#[.int .i64 b, .int .i64 n] ++ caps) W (fun e w' => e = .returned (.int .i64 (stp x b n).1) ∧ Inv (j + 1) w' (stp x b n).2 ∧ CB w' g c)
  keeps : ∀ j W x c i v, Inv j W x → CB W g c → Inv j (W.setCell ⟨g, i, none⟩ v) x
/-- All of its numbers are such. -/
def Cm.In (c : Cm) : Prop := (-9223372036854775808 ≤ c.k ∧ c.k ≤ 9223372036854775807) ∧ (-9223372036854775808 ≤ c.i ∧ c.i ≤ 9223372036854775807) ∧ (-9223372036854775808 ≤ c.m ∧ c.m ≤ 9223372036854775807) ∧ (-9223372036854775808 ≤ c.o ∧ c.o ≤ 9223372036854775807) ∧ (-9223372036854775808 ≤ c.s ∧ c.s ≤ 9223372036854775807) ∧ (-9223372036854775808 ≤ c.q ∧ c.q ≤ 9223372036854775807) ∧ (-9223372036854775808 ≤ c.p ∧ c.p ≤ 9223372036854775807)
/-- What comes of a command, and of what is kept. -/
def eachV {σ : Type} (stp : σ → Int → Int → Int × σ) (x : σ) (c : Cm) : Cm × σ :=
  let a1 := stp x 1 c.i
  let a2 := stp a1.2 2 c.m
  let a3 := stp a2.2 4 c.o
  let a4 := stp a3.2 8 c.s
  let a5 := stp a4.2 16 c.q
  let a6 := stp a5.2 32 c.p
  (⟨c.k, a1.1, a2.1, a3.1, a4.1, a5.1, a6.1⟩, a6.2)
set_option maxHeartbeats 4000000 in
theorem each_any {σ : Type} {gf : Nat} {caps : Array Value} {g : Nat} {Inv : Nat → World → σ → Prop} {stp : σ → Int → Int → Int × σ} (HC : SetOk gf caps g Inv stp) (c : Cm) (hc : c.In) (x : σ) (w : World) (hb : CB w g c) (hi : Inv 0 w x) :
    Calls Try.prog 23 #[.pointer (some ⟨g, 0, none⟩), .func (.func gf) #[] caps] w (fun e w' => e = .returned (.tuple #[]) ∧ Inv 6 w' (eachV stp x c).2 ∧ CB w' g (eachV stp x c).1) := by
  obtain ⟨k, i, m, o, s, q, p⟩ := c
  obtain ⟨_, n1, n2, n3, n4, n5, n6⟩ := hc
  simp only [] at n1 n2 n3 n4 n5 n6
  obtain ⟨a1, ha1⟩ : ∃ a, stp x 1 i = a := ⟨_, rfl⟩
  obtain ⟨a2, ha2⟩ : ∃ a, stp a1.2 2 m = a := ⟨_, rfl⟩
  obtain ⟨a3, ha3⟩ : ∃ a, stp a2.2 4 o = a := ⟨_, rfl⟩
  obtain ⟨a4, ha4⟩ : ∃ a, stp a3.2 8 s = a := ⟨_, rfl⟩
  obtain ⟨a5, ha5⟩ : ∃ a, stp a4.2 16 q = a := ⟨_, rfl⟩
  obtain ⟨a6, ha6⟩ : ∃ a, stp a5.2 32 p = a := ⟨_, rfl⟩
  have HV : Hid (eachV stp x ⟨k, i, m, o, s, q, p⟩ = (⟨k, a1.1, a2.1, a3.1, a4.1, a5.1, a6.1⟩, a6.2)) := by
    show _ = _
    unfold eachV
    simp only [ha1, ha2, ha3, ha4, ha5, ha6]
  have H1 := Lib.hid (fun W (h : Inv 0 W x) c (hb : CB W g c) => HC.calls 0 W x c (by decide) h hb 1 i n1)
  have H2 := Lib.hid (fun W (h : Inv 1 W a1.2) c (hb : CB W g c) => HC.calls 1 W a1.2 c (by decide) h hb 2 m n2)
  have H3 := Lib.hid (fun W (h : Inv 2 W a2.2) c (hb : CB W g c) => HC.calls 2 W a2.2 c (by decide) h hb 4 o n3)
  have H4 := Lib.hid (fun W (h : Inv 3 W a3.2) c (hb : CB W g c) => HC.calls 3 W a3.2 c (by decide) h hb 8 s n4)
  have H5 := Lib.hid (fun W (h : Inv 4 W a4.2) c (hb : CB W g c) => HC.calls 4 W a4.2 c (by decide) h hb 16 q n5)
  have H6 := Lib.hid (fun W (h : Inv 5 W a5.2) c (hb : CB W g c) => HC.calls 5 W a5.2 c (by decide) h hb 32 p n6)
  rw [ha1] at H1
  rw [ha2] at H2
  rw [ha3] at H3
  rw [ha4] at H4
  rw [ha5] at H5
  rw [ha6] at H6
  clear ha1 ha2 ha3 ha4 ha5 ha6 n1 n2 n3 n4 n5 n6
  have HK := Lib.hid HC.keeps
  have eg := HC.enter
  have HI0 := Lib.hid hi
  have HB0 := Lib.hid hb
  obtain ⟨k0, k1, k2, k3, k4, k5, k6⟩ := hb.cells
  clear hb hi HC
  go_enter Try.func23, Try.ntmps23
  go_wp2_with fail
  go_at_fn gf
  refine (H1.out _ HI0.out _ HB0.out).mono ?_
  rintro e w1 ⟨rfl, i1, b1⟩
  have f1 := b1.free 1
  obtain ⟨_, l1, l2, l3, l4, l5, l6⟩ := b1.cells
  have HI1 : Hid (Inv 1 (w1.setCell ⟨g, 1, none⟩ (.int .i64 a1.1)) a1.2) := HK.out _ _ _ _ _ _ i1 b1
  have HB1 : Hid (CB (w1.setCell ⟨g, 1, none⟩ (.int .i64 a1.1)) g ⟨k, a1.1, m, o, s, q, p⟩) := co_set b1 rfl
  clear i1 b1
  clear k0 k1 k2 k3 k4 k5 k6
  go_wp2_with fail
  go_at_fn gf
  refine (H2.out _ HI1.out _ HB1.out).mono ?_
  rintro e w2 ⟨rfl, i2, b2⟩
  have f2 := b2.free 2
  obtain ⟨_, l1, l2, l3, l4, l5, l6⟩ := b2.cells
  have HI2 : Hid (Inv 2 (w2.setCell ⟨g, 2, none⟩ (.int .i64 a2.1)) a2.2) := HK.out _ _ _ _ _ _ i2 b2
  have HB2 : Hid (CB (w2.setCell ⟨g, 2, none⟩ (.int .i64 a2.1)) g ⟨k, a1.1, a2.1, o, s, q, p⟩) := co_set b2 rfl
  clear i2 b2
  go_wp2_with fail
  go_at_fn gf
  refine (H3.out _ HI2.out _ HB2.out).mono ?_
  rintro e w3 ⟨rfl, i3, b3⟩
  have f3 := b3.free 3
  obtain ⟨_, l1, l2, l3, l4, l5, l6⟩ := b3.cells
  have HI3 : Hid (Inv 3 (w3.setCell ⟨g, 3, none⟩ (.int .i64 a3.1)) a3.2) := HK.out _ _ _ _ _ _ i3 b3
  have HB3 : Hid (CB (w3.setCell ⟨g, 3, none⟩ (.int .i64 a3.1)) g ⟨k, a1.1, a2.1, a3.1, s, q, p⟩) := co_set b3 rfl
  clear i3 b3
  go_wp2_with fail
  go_at_fn gf
  refine (H4.out _ HI3.out _ HB3.out).mono ?_
  rintro e w4 ⟨rfl, i4, b4⟩
  have f4 := b4.free 4
  obtain ⟨_, l1, l2, l3, l4, l5, l6⟩ := b4.cells
  have HI4 : Hid (Inv 4 (w4.setCell ⟨g, 4, none⟩ (.int .i64 a4.1)) a4.2) := HK.out _ _ _ _ _ _ i4 b4
  have HB4 : Hid (CB (w4.setCell ⟨g, 4, none⟩ (.int .i64 a4.1)) g ⟨k, a1.1, a2.1, a3.1, a4.1, q, p⟩) := co_set b4 rfl
  clear i4 b4
  go_wp2_with fail
  go_at_fn gf
  refine (H5.out _ HI4.out _ HB4.out).mono ?_
  rintro e w5 ⟨rfl, i5, b5⟩
  have f5 := b5.free 5
  obtain ⟨_, l1, l2, l3, l4, l5, l6⟩ := b5.cells
  have HI5 : Hid (Inv 5 (w5.setCell ⟨g, 5, none⟩ (.int .i64 a5.1)) a5.2) := HK.out _ _ _ _ _ _ i5 b5
  have HB5 : Hid (CB (w5.setCell ⟨g, 5, none⟩ (.int .i64 a5.1)) g ⟨k, a1.1, a2.1, a3.1, a4.1, a5.1, p⟩) := co_set b5 rfl
  clear i5 b5
  go_wp2_with fail
  go_at_fn gf
  refine (H6.out _ HI5.out _ HB5.out).mono ?_
  rintro e w6 ⟨rfl, i6, b6⟩
  have f6 := b6.free 6
  obtain ⟨_, l1, l2, l3, l4, l5, l6⟩ := b6.cells
  have HI6 : Hid (Inv 6 (w6.setCell ⟨g, 6, none⟩ (.int .i64 a6.1)) a6.2) := HK.out _ _ _ _ _ _ i6 b6
  have HB6 : Hid (CB (w6.setCell ⟨g, 6, none⟩ (.int .i64 a6.1)) g ⟨k, a1.1, a2.1, a3.1, a4.1, a5.1, a6.1⟩) := co_set b6 rfl
  clear i6 b6
  go_wp2_with fail
  go_end0
  rw [HV.out]
  exact ⟨rfl, HI6.out, HB6.out⟩
end Go.Proofs.Ytbpaongnehgodaa
