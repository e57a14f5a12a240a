/- journal.Append's closures. -/
import Derived.Test.YtbpaongnehgodaaDoorJoRead
namespace Go.Proofs.YtbpaongnehgodaaDoor
open Go.ChangeShapes Go.WideShapes Go.ChangeAt Go.RowKit
/-- A disk, the functions, the frame's error and the result in their boxes, and what was there. -/
structure ApI (w0 : World) (g k m : Nat) (s : ByteArray) (f : Int) (fs : Array Value) (W : World) : Prop where
  d : DB W g s ⟨#[]⟩ f false
  k : W.heap[k]? = some (.cells fs 44 (0, 0))
  m : W.heap[m]? = some (.cells #[.int .i64 0] 29 (0, 0))
  r : W.heap[g + 1]? = some (.cells #[.string ⟨#[]⟩, .string ⟨#[]⟩, .int .i64 0, .bool false] 26 (0, 0))
  b : Below w0.heap.size w0 W
theorem ApI.below {w0 : World} {g k m : Nat} {s : ByteArray} {f : Int} {fs : Array Value} {W W' : World} (h : ApI w0 g k m s f fs W) (hb : Below W.heap.size W W') : ApI w0 g k m s f fs W' :=
  ⟨(hb.block _ (lt_of_block h.d)).trans h.d, (hb.block _ (lt_of_block h.k)).trans h.k, (hb.block _ (lt_of_block h.m)).trans h.m, (hb.block _ (lt_of_block h.r)).trans h.r, h.b.trans (hb.mono h.b.size)⟩
theorem app1_ok (w0 : World) (g k m : Nat) (s : ByteArray) (f : Int) (fs : Array Value) : Told 17 #[.pointer (some ⟨m, 0, none⟩)] (ApI w0 g k m s f fs) 0 where
  enter := fun args w => by first | rfl | exact run_callFunc_user Tryd.func17
  calls := fun W hi => by
    have k0 : W.cell? ⟨m, 0, none⟩ = some (.int .i64 0) := by simp [World.cell?, hi.m]
    have HI := Lib.hid hi
    clear hi
    go_enter Tryd.func17, Tryd.ntmps17
    go_wp2_with fail
    go_ret
    exact ⟨rfl, HI.out⟩
theorem app2_ok (w0 : World) (g k m : Nat) (s : ByteArray) (f : Int) (fs : Array Value) : Told 18 #[.pointer (some ⟨g, 0, none⟩)] (ApI w0 g k m s f fs) 0 where
  enter := fun args w => by first | rfl | exact run_callFunc_user Tryd.func18
  calls := fun W hi => by
    have HC := Lib.hid (when_any false 3 W)
    rw [if_neg (by decide)] at HC
    obtain ⟨k0, k1, k2, k3⟩ := hi.d.cells
    have HI := Lib.hid hi
    clear hi
    go_enter Tryd.func18, Tryd.ntmps18
    go_wp2_with fail
    refine HC.out.mono ?_
    rintro en w1 ⟨rfl, rfl⟩
    go_wp2_with fail
    go_ret
    exact ⟨rfl, HI.out⟩
theorem app3_ok (w0 : World) (htab : Tab w0) (g k m : Nat) (s : ByteArray) (hs : s.size ≤ 4000) (f : Int) (fs : Array Value) (rs : List (List UInt8)) (er : Int) (hsc : scanR s.size s.data.toList = (rs, s.size, er)) : Told 20 #[.pointer (some ⟨g, 0, none⟩)] (ApI w0 g k m s f fs) 0 where
  enter := fun args w => by first | rfl | exact run_callFunc_user Tryd.func20
  calls := fun W hi => by
    have HR := Lib.hid (jread_any s ⟨#[]⟩ f false (by omega) W (Tab.below htab hi.b htab.lt))
    rw [hsc] at HR
    have HC := Lib.hid (fun W => when_any false 3 W)
    rw [if_neg (by decide)] at HC
    obtain ⟨k0, k1, k2, k3⟩ := hi.d.cells
    have HI := Lib.hid hi
    have n1 : (s.size : Int) ≤ 4000 := by omega
    clear hi hsc hs
    go_enter Tryd.func20, Tryd.ntmps20
    go_wp2_with fail
    refine HR.out.mono ?_
    rintro en w1 ⟨b1, ao, cap, rfl, _, _⟩
    have HI1 := Lib.hid (HI.out.below b1)
    obtain ⟨p0, p1, p2, p3⟩ := HI1.out.d.cells
    clear b1 k0 k1 k2 k3
    go_wp2_with fail
    refine (HC.out _).mono ?_
    rintro en w2 ⟨rfl, rfl⟩
    go_wp2_with fail
    go_ret
    exact ⟨rfl, HI1.out⟩
end Go.Proofs.YtbpaongnehgodaaDoor
