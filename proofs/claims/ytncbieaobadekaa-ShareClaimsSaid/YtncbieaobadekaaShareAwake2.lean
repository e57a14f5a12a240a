/- The page's examples hold: awake. -/
import Derived.Test.YtncbieaobadekaaShareAwake
namespace Go.Proofs.Ytncbieaobadekaa
open Go.ChangeShapes Go.WideShapes Go.ChangeAt Go.RowKit
def three (x y z : Int) (i : Nat) : Int := if i = 0 then x else if i = 1 then y else z
theorem three_ints (x y z : Int) (w : World) : IntsAt (w.alloc (.cells #[.int .i64 x, .int .i64 y, .int .i64 z] 2)) (some ⟨w.heap.size, 0, none⟩) 3 (three x y z) := fun _ => ⟨_, _, rfl, by simp, fun i hi => by
  rw [World.cell?_alloc_new, Nat.zero_add]
  rcases i with _ | _ | _ | i
  · rfl
  · rfl
  · rfl
  · omega⟩
theorem two_ints (x y : Int) (w : World) : IntsAt (w.alloc (.cells #[.int .i64 x, .int .i64 y] 2)) (some ⟨w.heap.size, 0, none⟩) 2 (three x y 0) := fun _ => ⟨_, _, rfl, by simp, fun i hi => by
  rw [World.cell?_alloc_new, Nat.zero_add]
  rcases i with _ | _ | i
  · rfl
  · rfl
  · omega⟩
theorem const_first {a c v n : Nat} {f' : Nat → Int} (hn : 0 < n) (h : SortedOn (ltK (restK (fun i => (rN a c (fun _ => v) i : Nat)))) f' 0 n) (hs : Same 0 n (fun i => (i : Int)) f') : f' 0 = 0 := by
  obtain ⟨i, _, hi, he⟩ := hs.to_ 0 (Nat.le_refl _) hn
  obtain ⟨j, _, _, hj⟩ := hs.from_ 0 (Nat.le_refl _) hn
  rcases Nat.eq_zero_or_pos i with rfl | hp
  · exact he
  · have := h 0 i (Nat.le_refl _) hp hi
    unfold ltK restK rN at this
    dsimp only at this
    omega
def Gives (n : Nat) (z : Nat → Int) (w : World) (e : Ending) (w' : World) : Prop := Below w.heap.size w w' ∧ ∃ g, w.heap.size ≤ g ∧ e = .returned (.tuple #[.slice (some ⟨g, 0, none⟩) n n, .int .i64 0]) ∧ RowI w' g n z
theorem ex1 (w : World) (g : Nat) (h : IntsAt w (some ⟨g, 0, none⟩) 3 (three 1 1 1)) :
    Calls Try.prog 14 #[.int .i64 100, .slice (some ⟨g, 0, none⟩) 3 3] w (Gives 3 (three 34 33 33) w) := by
  refine (appor_few 100 3 3 (fun _ => 1) (some ⟨g, 0, none⟩) (by decide) (by decide) (by decide) (by decide) (by decide) w (h.congr fun i hi => by unfold three; split; rfl; split <;> rfl)).mono ?_
  rintro e w' ⟨hb, g', f', hg, rfl, h1, h2, h3⟩
  have h0 := const_first (by decide) h1 h2
  refine ⟨hb, g', hg, rfl, h3.congr fun i hi => ?_⟩
  have e1 : 100 - sN (qN 100 (sN (fun _ => 1) 3) (fun _ => 1)) 3 = 1 := by decide
  rw [e1, upN, upN, h0]
  rcases i with _ | _ | _ | i
  · rfl
  · rfl
  · rfl
  · omega
theorem ex2 (w : World) (g : Nat) (h : IntsAt w (some ⟨g, 0, none⟩) 2 (three 4 4 0)) :
    Calls Try.prog 17 #[.int .i64 5, .slice (some ⟨g, 0, none⟩) 2 2] w (Gives 2 (three 3 2 0) w) := by
  refine (alloc_few 5 2 2 (fun _ => 4) (some ⟨g, 0, none⟩) (by decide) (by decide) (by decide) (by decide) w (h.congr fun i hi => by rcases i with _ | _ | i; rfl; rfl; omega)).mono ?_
  rintro e w' ⟨hb, g', f', hg, rfl, h1, h2, h3⟩
  have h0 := const_first (by decide) h1 h2
  refine ⟨hb, g', hg, rfl, h3.congr fun i hi => ?_⟩
  have e1 : 5 - sN (qN 5 (sN (fun _ => 4) 2) (fun _ => 4)) 2 = 1 := by decide
  rw [e1, upN, upN, h0]
  rcases i with _ | _ | i
  · rfl
  · rfl
  · omega
theorem yes_any (z : Nat → Int) (n cap cap' : Nat) (ao bo : Option Addr) (hn : n ≤ 1000000) (w : World) (h1 : IntsAt w ao n z) (h2 : IntsAt w bo n z) :
    Calls Try.prog 16 #[.slice ao n cap, .slice bo n cap'] w (fun e w' => e = .returned (.bool true) ∧ ∃ q, w' = w.drewN q) := by
  refine (same_any z z n cap n cap' ao bo hn hn w h1 h2).mono ?_
  rintro e w' ⟨b, rfl, hb, hq⟩
  obtain rfl : b = true := hb.2 ⟨rfl, fun _ _ => rfl⟩
  exact ⟨rfl, hq⟩
theorem below_drewN {B : Nat} {w w' : World} (h : Below B w w') (q : Nat) : Below B w (w'.drewN q) := ⟨h.os, h.tape, h.output, h.size, h.block⟩
theorem awake_any (w : World) : Calls Try.prog 13 #[] w (Ret (.bool true) w) := by
  have A1 := Lib.hid (fun (w : World) g h => ex1 w g h)
  have A2 := Lib.hid (fun (w : World) g h => ex2 w g h)
  have A3 := Lib.hid (fun (w : World) z n cap cap' ao bo hn h1 h2 => yes_any z n cap cap' ao bo hn w h1 h2)
  have I1 := Lib.hid (three_ints 1 1 1 w)
  go_enter Try.func13, Try.ntmps13
  go_wp2_with fail
  refine (A1.out _ _ I1.out).mono ?_
  rintro e w1 ⟨h1, g1, hg1, rfl, hr1⟩
  have H1 : Hid (Below w.heap.size w w1) := ((Below.refl _ _).alloc (Nat.le_refl _) _).trans (h1.mono (by simp))
  have HR1 := Lib.hid hr1
  have I2 := Lib.hid (two_ints 4 4 w1)
  clear h1 hg1 hr1
  go_wp2_with fail
  refine (A2.out _ _ I2.out).mono ?_
  rintro e w2 ⟨h2, g2, hg2, rfl, hr2⟩
  have H12 : Hid (Below w1.heap.size w1 w2) := ((Below.refl _ _).alloc (Nat.le_refl _) _).trans (h2.mono (by simp))
  have H2 : Hid (Below w.heap.size w w2) := H1.out.trans (H12.out.mono H1.out.size)
  have HR2 := Lib.hid hr2
  have I3 := Lib.hid (three_ints 34 33 33 w2)
  have J1 := Lib.hid (HR1.out.gr H12.out)
  clear h2 hg2 hr2
  go_wp2_with fail
  refine (A3.out _ (three 34 33 33) 3 3 3 _ _ (by decide) (J1.out.ints.below ((Below.refl _ _).alloc (Nat.le_refl _) _)) I3.out).mono ?_
  rintro e w3 ⟨rfl, q, rfl⟩
  have H13 : Hid (Below w2.heap.size w2 ((w2.alloc (Obj.cells #[Value.int IntKind.i64 34, Value.int IntKind.i64 33, Value.int IntKind.i64 33] 2)).drewN q)) := below_drewN ((Below.refl _ _).alloc (Nat.le_refl _) _) q
  generalize (w2.alloc (Obj.cells #[Value.int IntKind.i64 34, Value.int IntKind.i64 33, Value.int IntKind.i64 33] 2)).drewN q = w3 at *
  have J2 := Lib.hid (HR2.out.gr H13.out)
  have H3 : Hid (Below w.heap.size w w3) := H2.out.trans (H13.out.mono H2.out.size)
  have I4 := Lib.hid (two_ints 3 2 w3)
  go_wp2_with fail
  refine (A3.out _ (three 3 2 0) 2 2 2 _ _ (by decide) (J2.out.ints.below ((Below.refl _ _).alloc (Nat.le_refl _) _)) I4.out).mono ?_
  rintro e w4 ⟨rfl, q', rfl⟩
  have H4 : Hid (Below w3.heap.size w3 ((w3.alloc (Obj.cells #[Value.int IntKind.i64 3, Value.int IntKind.i64 2] 2)).drewN q')) := below_drewN ((Below.refl _ _).alloc (Nat.le_refl _) _) q'
  generalize (w3.alloc (Obj.cells #[Value.int IntKind.i64 3, Value.int IntKind.i64 2] 2)).drewN q' = w4 at *
  go_wp2_with fail
  go_ret
  exact ⟨rfl, H3.out.trans (H4.out.mono H3.out.size)⟩
end Go.Proofs.Ytncbieaobadekaa
