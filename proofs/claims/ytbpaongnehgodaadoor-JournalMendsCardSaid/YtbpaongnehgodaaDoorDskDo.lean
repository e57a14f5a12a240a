/- What the disk's closures do. -/
import Derived.Test.YtbpaongnehgodaaDoorDskCode
namespace Go.Proofs.YtbpaongnehgodaaDoor
open Go.ChangeShapes Go.WideShapes Go.ChangeAt Go.RowKit
theorem db_set {w : World} {g i : Nat} {v : Value} {cs cs' : Array Value} {ty : TypeId} (h : w.heap[g]? = some (.cells cs ty (0, 0))) (e : cs.set! i v = cs') : (w.setCell ⟨g, i, none⟩ v).heap[g]? = some (.cells cs' ty (0, 0)) := by
  subst e
  simp only [World.setCell, Array.getElem?_modify]
  rw [if_pos trivial, h]
  rfl
theorem set_grown (w : World) (p : Addr) (u : Value) : w.grownBy (w.setCell p u) (some p.block) := ⟨rfl, rfl, rfl, by simp [World.setCell], fun k _ hne => Below.heap_setCell _ _ _ _ (fun e => hne (by rw [e]))⟩
theorem grown_trans {u v w : World} {r : Option Nat} (h : u.grownBy v r) (k : v.grownBy w r) : u.grownBy w r := ⟨k.os.trans h.os, k.tape.trans h.tape, k.output.trans h.output, Nat.le_trans h.size k.size, fun i hi hs => (k.block i (Nat.lt_of_lt_of_le hi h.size) hs).trans (h.block i hi hs)⟩
theorem grown_drew {u v : World} {r : Option Nat} (h : u.grownBy v r) : u.grownBy v.drew r := ⟨h.os, h.tape, h.output, h.size, h.block⟩
theorem grown_below {w w' : World} {r : Option Nat} (h : Below w.heap.size w w') : w.grownBy w' r := ⟨h.os, h.tape, h.output, h.size, fun k hk _ => h.block k hk⟩
set_option maxHeartbeats 4000000 in
theorem dwrite1 (s t x : ByteArray) (f : Int) (d p : Bool) (h : Small s t) (hx : x.size ≤ 4000) (g c : Nat) (w : World) (hb : DB w g s t f d) (hc : w.heap[c]? = some (.cells #[.string x] 9 (0, 0))) :
    Calls Tryd.prog 36 #[.pointer (some ⟨g, 0, none⟩), .bool p, .pointer (some ⟨c, 0, none⟩)] w (fun e w' => e = .returned (.tuple #[]) ∧ DB w' g s (t ++ x) f d ∧ w.grownBy w' (some g)) := by
  obtain ⟨h1, h2⟩ := h
  have hadd : ∀ W, (Op.stringOp .add t x).run Tryd.prog W = .ok (.string (t ++ x)) W := fun W => run_string_add W t x (by omega) (by omega)
  obtain ⟨_, k1, _, _⟩ := hb.cells
  have f1 := hb.free 1
  have k4 : w.cell? ⟨c, 0, none⟩ = some (.string x) := by simp [World.cell?, hc]
  have HB := Lib.hid hb
  clear hb hc h1 h2
  go_enter Tryd.func36, Tryd.ntmps36
  go_wp2_with fail
  go_region
  all_goals
    go_wp2_with fail
    go_end0
    exact ⟨rfl, db_set HB.out rfl, grown_drew (set_grown _ _ _)⟩
set_option maxHeartbeats 4000000 in
theorem dsync1 (s t : ByteArray) (f : Int) (d p : Bool) (h : Small s t) (g : Nat) (w : World) (hb : DB w g s t f d) :
    Calls Tryd.prog 37 #[.pointer (some ⟨g, 0, none⟩), .bool p] w (fun e w' => e = .returned (.tuple #[]) ∧ DB w' g (if p then s ++ t else s) (if p then ⟨#[]⟩ else t) f d ∧ w.grownBy w' (some g)) := by
  have HY := Lib.hid (fun W => dbytes_any s t f d h W)
  obtain ⟨k0, k1, k2, k3⟩ := hb.cells
  have HB := Lib.hid hb
  have hg : g < w.heap.size := lt_of_block hb
  clear hb h
  cases p with
  | true =>
    go_enter Tryd.func37, Tryd.ntmps37
    go_wp2_with fail
    refine (HY.out _).mono ?_
    rintro e w1 ⟨rfl, h1⟩
    have hb1 : DB w1 g s t f d := (h1.block g (by exact hg)).trans HB.out
    obtain ⟨j0, j1, j2, j3⟩ := hb1.cells
    have f0 := hb1.free 0
    have f1 := hb1.free 1
    have HB1 := Lib.hid hb1
    have HG1 : Hid (w.grownBy w1 (some g)) := grown_below h1
    clear h1 hb1 k0 k1 k2 k3
    go_wp2_with fail
    go_end0
    exact ⟨rfl, db_set (db_set HB1.out rfl) rfl, grown_trans (grown_trans HG1.out (set_grown _ _ _)) (set_grown _ _ _)⟩
  | false =>
    go_enter Tryd.func37, Tryd.ntmps37
    go_wp2_with fail
    go_end0
    exact ⟨rfl, HB.out, grown_below (Below.refl _ _)⟩
/-- The first n bytes. -/
def front (s : ByteArray) (n : Nat) : ByteArray := s.extract 0 n
set_option maxHeartbeats 4000000 in
theorem dcut1 (s t : ByteArray) (f : Int) (d p : Bool) (n : Nat) (hn : n ≤ s.size) (g c : Nat) (w : World) (hb : DB w g s t f d) (hc : w.heap[c]? = some (.cells #[.int .i64 n] 3 (0, 0))) :
    Calls Tryd.prog 45 #[.pointer (some ⟨g, 0, none⟩), .bool p, .pointer (some ⟨c, 0, none⟩)] w (fun e w' => e = .returned (.tuple #[]) ∧ DB w' g (if p then front s n else s) t f d ∧ w.grownBy w' (some g)) := by
  obtain ⟨k0, _, _, _⟩ := hb.cells
  have f0 := hb.free 0
  have k4 : w.cell? ⟨c, 0, none⟩ = some (.int .i64 n) := by simp [World.cell?, hc]
  have HB := Lib.hid hb
  have n2 : (n : Int) ≤ s.size := by omega
  clear hb hc
  cases p with
  | true =>
    go_enter Tryd.func45, Tryd.ntmps45
    go_wp2_with fail
    go_region
    all_goals
      go_wp2_with fail
      go_end0
      exact ⟨rfl, db_set HB.out rfl, grown_drew (set_grown _ _ _)⟩
  | false =>
    go_enter Tryd.func45, Tryd.ntmps45
    go_wp2_with fail
    go_end0
    exact ⟨rfl, HB.out, grown_below (Below.refl _ _)⟩
end Go.Proofs.YtbpaongnehgodaaDoor
