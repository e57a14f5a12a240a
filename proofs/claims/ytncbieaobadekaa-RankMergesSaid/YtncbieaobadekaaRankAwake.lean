/- The page's example: awake. -/
import Derived.Test.YtncbieaobadekaaRankOrder
namespace Go.Proofs.Ytncbieaobadekaa
open Go.ChangeShapes Go.WideShapes Go.ChangeAt Go.RowKit
def alen (i : Nat) : Nat := if i = 1 then 2 else 1
def az (i t : Nat) : Int := if i = 0 then 2 else if t = 0 then 1 else 5
def awakeK (B i : Nat) : Key := ⟨some ⟨B + i, 0, none⟩, alen i, alen i, az i⟩
theorem awake_place (B : Nat) : placeL (ordLt (awakeK B)) 3 2 = 0 ∧ placeL (ordLt (awakeK B)) 3 1 = 1 ∧ placeL (ordLt (awakeK B)) 3 0 = 2 := (by decide : placeL (ordLt (awakeK 0)) 3 2 = 0 ∧ placeL (ordLt (awakeK 0)) 3 1 = 1 ∧ placeL (ordLt (awakeK 0)) 3 0 = 2)
theorem awake_order {B : Nat} {f : Nat → Nat} (h : OrdF (ordLt (awakeK B)) 3 f) : f 0 = 2 ∧ f 1 = 1 ∧ f 2 = 0 := by
  obtain ⟨h1, h2, h3⟩ := awake_place B
  have a1 := (h.at_ 2 (by decide)).2
  have a2 := (h.at_ 1 (by decide)).2
  have a3 := (h.at_ 0 (by decide)).2
  rw [h1] at a1
  rw [h2] at a2
  rw [h3] at a3
  exact ⟨a1, a2, a3⟩
theorem one_at (w : World) (x : Int) (T : TypeId) : IntsAt (w.alloc (.cells #[.int .i64 x] T)) (some ⟨w.heap.size, 0, none⟩) 1 (fun _ => x) := fun _ => ⟨_, _, rfl, by simp, fun i hi => by
  rw [World.cell?_alloc_new, Nat.zero_add]
  rcases i with _ | i
  · rfl
  · omega⟩
def two (x y : Int) (i : Nat) : Int := if i = 0 then x else y
theorem two_at (w : World) (x y : Int) (T : TypeId) : IntsAt (w.alloc (.cells #[.int .i64 x, .int .i64 y] T)) (some ⟨w.heap.size, 0, none⟩) 2 (two x y) := fun _ => ⟨_, _, rfl, by simp, fun i hi => by
  rw [World.cell?_alloc_new, Nat.zero_add]
  rcases i with _ | _ | i
  · rfl
  · rfl
  · omega⟩
theorem IntsAt.alloc {w : World} {ao : Option Addr} {n : Nat} {z : Nat → Int} (h : IntsAt w ao n z) (o : Obj) : IntsAt (w.alloc o) ao n z := h.below ((Below.refl _ _).alloc (Nat.le_refl _) _)
theorem awake_keys (w : World) (T U : TypeId) : KeysAt ((((w.alloc (.cells #[.int .i64 2] T)).alloc (.cells #[.int .i64 1, .int .i64 5] T)).alloc (.cells #[.int .i64 1] T)).alloc
    (.cells #[.slice (some ⟨w.heap.size, 0, none⟩) 1 1, .slice (some ⟨w.heap.size + 1, 0, none⟩) 2 2, .slice (some ⟨w.heap.size + 1 + 1, 0, none⟩) 1 1] U)) (some ⟨w.heap.size + 1 + 1 + 1, 0, none⟩) 3 (awakeK w.heap.size) := by
  refine ⟨fun i hi => ?_, fun _ => ⟨_, 0, rfl, by simp, fun i hi => ?_⟩⟩
  · rcases i with _ | _ | _ | i
    · refine ⟨show (_ : Nat) ≤ 1000000 from of_decide_eq_true rfl, ?_⟩
      have := (((one_at w 2 T).alloc (.cells #[.int .i64 1, .int .i64 5] T)).alloc (.cells #[.int .i64 1] T)).alloc (.cells #[.slice (some ⟨w.heap.size, 0, none⟩) 1 1, .slice (some ⟨w.heap.size + 1, 0, none⟩) 2 2, .slice (some ⟨w.heap.size + 1 + 1, 0, none⟩) 1 1] U)
      exact this.congr fun i hi => rfl
    · refine ⟨show (_ : Nat) ≤ 1000000 from of_decide_eq_true rfl, ?_⟩
      have := ((two_at (w.alloc (.cells #[.int .i64 2] T)) 1 5 T).alloc (.cells #[.int .i64 1] T)).alloc (.cells #[.slice (some ⟨w.heap.size, 0, none⟩) 1 1, .slice (some ⟨w.heap.size + 1, 0, none⟩) 2 2, .slice (some ⟨w.heap.size + 1 + 1, 0, none⟩) 1 1] U)
      rw [show (w.alloc (Obj.cells #[.int .i64 2] T)).heap.size = w.heap.size + 1 from by simp] at this
      exact this.congr fun i hi => rfl
    · refine ⟨show (_ : Nat) ≤ 1000000 from of_decide_eq_true rfl, ?_⟩
      have := (one_at ((w.alloc (.cells #[.int .i64 2] T)).alloc (.cells #[.int .i64 1, .int .i64 5] T)) 1 T).alloc (.cells #[.slice (some ⟨w.heap.size, 0, none⟩) 1 1, .slice (some ⟨w.heap.size + 1, 0, none⟩) 2 2, .slice (some ⟨w.heap.size + 1 + 1, 0, none⟩) 1 1] U)
      rw [show ((w.alloc (Obj.cells #[.int .i64 2] T)).alloc (.cells #[.int .i64 1, .int .i64 5] T)).heap.size = w.heap.size + 2 from by simp] at this
      exact this.congr fun i hi => by
        have : i = 0 := by have : i < 1 := hi; omega
        subst this
        rfl
    · omega
  · have hs : w.heap.size + 1 + 1 + 1 = (((w.alloc (.cells #[.int .i64 2] T)).alloc (.cells #[.int .i64 1, .int .i64 5] T)).alloc (.cells #[.int .i64 1] T)).heap.size := by simp
    rw [hs, World.cell?_alloc_new, Nat.zero_add]
    rcases i with _ | _ | _ | i
    · rfl
    · rfl
    · rfl
    · omega
set_option maxHeartbeats 400000 in
theorem awake_any (w : World) : Calls Try.prog 36 #[] w (Ret (.bool true) w) := by
  have HO := Lib.hid (fun (W : World) h => order_any (awakeK w.heap.size) 3 3 (some ⟨w.heap.size + 1 + 1 + 1, 0, none⟩) (by decide) W h)
  have HK := Lib.hid (awake_keys w 2 22)
  have HC : Hid (∀ (W : World) ao bo, IntsAt W ao 1 (fun _ => 1) → IntsAt W bo 2 (two 1 5) → Calls Try.prog 37 #[.slice ao 1 1, .slice bo 2 2] W (RetS (.int .i64 (-1)) W)) := fun W ao bo h1 h2 => rcmp_any (fun _ => 1) (two 1 5) 1 1 2 2 ao bo (by decide) (by decide) W h1 h2
  go_enter Try.func36, Try.ntmps36
  go_wp2_with fail
  refine (HO.out _ HK.out).mono ?_
  rintro e w1 ⟨h1, g, f, hg, rfl, hf, hi⟩
  obtain ⟨f0, f1, f2⟩ := awake_order hf
  obtain ⟨b, off, e1, hlt, hc⟩ := hi (by decide)
  obtain ⟨rfl, rfl⟩ : g = b ∧ 0 = off := by injection e1 with e1; injection e1 with a1 a2; exact ⟨a1, a2⟩
  have c0 : w1.cell? ⟨g, 0, none⟩ = some (.int .i64 2) := by
    have := hc 0 (by decide)
    dsimp only at this
    rwa [f0] at this
  have c1 : w1.cell? ⟨g, 1, none⟩ = some (.int .i64 1) := by
    have := hc 1 (by decide)
    dsimp only at this
    rwa [f1] at this
  have c2 : w1.cell? ⟨g, 2, none⟩ = some (.int .i64 0) := by
    have := hc 2 (by decide)
    dsimp only at this
    rwa [f2] at this
  have H1 : Hid (Below w.heap.size w w1) := by
    have hB := (((((Below.refl w.heap.size w).alloc (Nat.le_refl _) (.cells #[.int .i64 2] 2)).alloc (by simp) (.cells #[.int .i64 1, .int .i64 5] 2)).alloc (by simp; omega) (.cells #[.int .i64 1] 2)).alloc (by simp; omega) (.cells #[.slice (some ⟨w.heap.size, 0, none⟩) 1 1, .slice (some ⟨w.heap.size + 1, 0, none⟩) 2 2, .slice (some ⟨w.heap.size + 1 + 1, 0, none⟩) 1 1] 22))
    exact hB.trans (h1.mono hB.size)
  have I1 := Lib.hid ((one_at w1 1 2).alloc (.cells #[.int .i64 1, .int .i64 5] 2))
  have I2 := Lib.hid (two_at (w1.alloc (.cells #[.int .i64 1] 2)) 1 5 2)
  rw [show (w1.alloc (.cells #[.int .i64 1] 2)).heap.size = w1.heap.size + 1 from by simp] at I2
  clear h1 hg hf hi e1 hlt hc f0 f1 f2 HO HK
  go_wp2_with fail
  refine (HC.out _ _ _ I1.out I2.out).mono ?_
  rintro e w2 ⟨rfl, rfl⟩
  go_wp2
  go_ret
  exact ⟨rfl, (H1.out.alloc H1.out.size _).alloc (by have := H1.out.size; simp; omega) _⟩
end Go.Proofs.Ytncbieaobadekaa
