/- NumReads, walked: a round. -/
import Derived.Test.YtmepaeppkeaifaaNumLaw1
import Derived.Test.YtmepaeppkeaifaaNumRdRef
namespace Go.Proofs.Ytmepaeppkeaifaa
open Go.ChangeShapes Go.WideShapes Go.ChangeAt Go.RowKit
theorem err_none (w : World) : Calls Try.prog 32 #[.pointer none] w (RetS (.int .i64 1) w) := by
  go_enter Try.func32, Try.ntmps32
  go_wp2
  go_ret
  exact ⟨rfl, rfl⟩
theorem left_none (w : World) : Calls Try.prog 33 #[.pointer none] w (RetS (.int .i64 0) w) := by
  go_enter Try.func33, Try.ntmps33
  go_wp2
  go_ret
  exact ⟨rfl, rfl⟩
theorem end_none (w : World) : Calls Try.prog 34 #[.pointer none] w (RetS (.int .i64 1) w) := by
  have HE := Lib.hid (err_none w)
  go_enter Try.func34, Try.ntmps34
  go_wp2_with fail
  refine HE.out.mono ?_
  rintro e w1 ⟨rfl, rfl⟩
  go_wp2
  go_ret
  exact ⟨rfl, rfl⟩
theorem read_none (v : Value) (w : World) : Calls Try.prog 52 #[.pointer none, v] w (RetS (.int .i64 0) w) := by
  have HE := Lib.hid (err_none w)
  go_enter Try.func52, Try.ntmps52
  go_wp2_with fail
  refine HE.out.mono ?_
  rintro e w1 ⟨rfl, rfl⟩
  go_wp2
  go_ret
  exact ⟨rfl, rfl⟩
theorem num_none (w : World) : Calls Try.prog 30 #[.pointer none] w (RetS (.int .i64 0) w) := by
  have HE := Lib.hid (fun v => read_none v w)
  go_enter Try.func30, Try.ntmps30
  go_wp2_with fail
  refine (HE.out _).mono ?_
  rintro e w1 ⟨rfl, rfl⟩
  go_wp2
  go_ret
  exact ⟨rfl, rfl⟩
theorem upto_none (most : Int) (w : World) : Calls Try.prog 37 #[.pointer none, .int .i64 most] w (Ret (.int .i64 0) w) := by
  have HE := Lib.hid (fun v W => read_none v W)
  go_enter Try.func37, Try.ntmps37
  go_wp2_with fail
  refine (HE.out _ _).mono ?_
  rintro e w1 ⟨rfl, rfl⟩
  go_wp2
  go_ret
  exact ⟨rfl, by go_grown⟩
theorem text_none (most : Int) (w : World) : Calls Try.prog 31 #[.pointer none, .int .i64 most] w (Ret (.string ⟨#[]⟩) w) := by
  have HE := Lib.hid (fun v W => read_none v W)
  go_enter Try.func31, Try.ntmps31
  go_wp2_with fail
  refine (HE.out _ _).mono ?_
  rintro e w1 ⟨rfl, rfl⟩
  go_wp2
  go_ret
  exact ⟨rfl, by go_grown⟩
/-- n acts lie at the address, two cells each; of none nothing is said. -/
def ActsAt (w : World) (ao : Option Addr) (n : Nat) (a m : Nat → Int) : Prop :=
  0 < n → ∃ b off, ao = some ⟨b, off, none⟩ ∧ b < w.heap.size ∧ ∀ i, i < n → w.cell? ⟨b, off + i * 2, none⟩ = some (.int .i64 (a i)) ∧ w.cell? ⟨b, off + i * 2 + 1, none⟩ = some (.int .i64 (m i))
theorem ActsAt.below {w w' : World} {ao : Option Addr} {n : Nat} {a m : Nat → Int} (h : ActsAt w ao n a m) (hb : Below w.heap.size w w') : ActsAt w' ao n a m := fun hn => by
  obtain ⟨b, off, e, hlt, hc⟩ := h hn
  exact ⟨b, off, e, Nat.lt_of_lt_of_le hlt hb.size, fun i hi => ⟨(hb.cell (by exact hlt)).trans (hc i hi).1, (hb.cell (by exact hlt)).trans (hc i hi).2⟩⟩
theorem below_gr {B g : Nat} {w a b : World} (h : Below B w a) (hg : Gr g a b) (hB : B ≤ g) (hw : B ≤ w.heap.size) : Below B w b :=
  h.grown hg (Nat.le_trans hw h.size) (fun k hk => by injection hk with hk; omega)
/-- Both readers, and all that was there. -/
structure Both (w wr : World) (g k : Nat) (s : ByteArray) (e : Int) : Prop where
  r : RAt 88 wr g s e
  q : RAt 69 wr k s e
  bel : Below w.heap.size w wr
  hg : w.heap.size ≤ g
  hk : w.heap.size ≤ k
  ne : g ≠ k
  sz : s.size ≤ 300
theorem Both.step {w wr w1 w2 : World} {g k : Nat} {s s' : ByteArray} {e e' : Int} (h : Both w wr g k s e) (h1 : Gr g wr w1) (r1 : RAt 88 w1 g s' e') (h2 : Gr k w1 w2) (q2 : RAt 69 w2 k s' e') (hs : s'.size ≤ 300) : Both w w2 g k s' e' :=
  ⟨r1.other h2 h.ne, q2, below_gr (below_gr h.bel h1 h.hg (Nat.le_refl _)) h2 h.hk (Nat.le_refl _), h.hg, h.hk, h.ne, hs⟩
theorem reads_long (s : ByteArray) (hs : s.size ≤ 9223372036854775807) (ao : Option Addr) (n cap : Nat) (hn : n ≤ 9223372036854775807) (hl : 300 < s.size ∨ 40 < n) (w : World) :
    Calls Try.prog 7 #[.string s, .slice ao n cap] w (Ret (.bool true) w) := by
  have HA := Lib.hid (awake_any w)
  by_cases h1 : 300 < s.size
  · have d1 : decide (300 < (s.size : Int)) = true := decide_eq_true (by omega)
    have d2 := decide_eq_true h1
    clear hl hs h1 hn
    go_enter Try.func7, Try.ntmps7
    go_wp2_with fail
    refine HA.out.mono ?_
    rintro e w1 ⟨rfl, h1⟩
    go_wp2
    go_ret
    exact ⟨rfl, h1⟩
  · have d1 : decide (300 < (s.size : Int)) = false := decide_eq_false (by omega)
    have d2 := decide_eq_false h1
    have d3 : decide (40 < (n : Int)) = true := decide_eq_true (by omega)
    have d4 : decide (40 < n) = true := decide_eq_true (by omega)
    clear hl hs h1 hn
    go_enter Try.func7, Try.ntmps7
    go_wp2_with fail
    refine HA.out.mono ?_
    rintro e w1 ⟨rfl, h1⟩
    go_wp2
    go_ret
    exact ⟨rfl, h1⟩
end Go.Proofs.Ytmepaeppkeaifaa
