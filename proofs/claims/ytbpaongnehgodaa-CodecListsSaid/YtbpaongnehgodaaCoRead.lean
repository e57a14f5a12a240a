/- codec.read. -/
import Derived.Test.YtbpaongnehgodaaCoPutF
namespace Go.Proofs.Ytbpaongnehgodaa
open Go.ChangeShapes Go.WideShapes Go.ChangeAt Go.RowKit
/-- What reading a number tells. -/
def rd (s : ByteArray) (e : Int) : Int × ByteArray × Int := readV (fun _ _ => 0) s e
/-- What read's closure does. -/
def stR (b : Int) (x : ByteArray × Int) (d n : Int) : Int × (ByteArray × Int) := if bits BinOp.and IntKind.i64 b d = 0 then (n, x) else rd x.1 x.2
/-- What it keeps. -/
structure RdI (w0 : World) (rg bb pb : Nat) (b : Int) (W : World) (x : ByteArray × Int) : Prop where
  bits : W.heap[bb]? = some (.cells #[.int .i64 b] 3 (0, 0))
  box : W.heap[pb]? = some (.cells #[ptr rg] 52 (0, 0))
  r : RAt 68 W rg x.1 x.2
  gr : Gr rg w0 W
  small : x.1.size ≤ 1000000
theorem gr_new {g k i : Nat} {a b : World} {u : Value} (h : Gr g a b) (hk : a.heap.size ≤ k) : Gr g a (b.setCell ⟨k, i, none⟩ u) :=
  ⟨h.os, h.tape, h.output, by simpa [World.setCell] using h.size, fun m hm hne => (Below.heap_setCell _ _ _ _ (by show m ≠ k; omega)).trans (h.block m hm hne)⟩
theorem gr_alloc {g : Nat} {a b : World} {o : Obj} (h : Gr g a b) : Gr g a (b.alloc o) := gr_trans h (gr_below ((Below.refl _ _).alloc (Nat.le_refl _) _))
set_option maxHeartbeats 4000000 in
theorem read1_ok (w0 : World) (g rg bb pb : Nat) (b : Int) (hr : g ≠ rg) (hg : w0.heap.size ≤ g) (hb : bb ≠ rg) (hp : pb ≠ rg) (h1 : g ≠ bb) (h2 : g ≠ pb) :
    SetOk 42 #[.pointer (some ⟨bb, 0, none⟩), .pointer (some ⟨pb, 0, none⟩)] g (fun _ => RdI w0 rg bb pb b) (stR b) where
  enter := fun args w => by first | rfl | exact run_callFunc_user Try.func42
  keeps := fun _ W x c i v h hc => ⟨co_other h.bits h1.symm, co_other h.box h2.symm, co_other h.r hr.symm, gr_new h.gr hg, h.small⟩
  calls := fun j W x c _ hI hB d n hn => by
    have kb := one_cell hI.bits
    have kp := one_cell hI.box
    have HI := Lib.hid hI
    have HB := Lib.hid hB
    clear hI hB hn
    obtain ⟨t, ht⟩ : ∃ t, bits BinOp.and IntKind.i64 b d = t := ⟨_, rfl⟩
    by_cases hz : t = 0
    · have HV : Hid (stR b x d n = (n, x)) := by show _ = _; unfold stR; rw [if_pos (by rw [ht]; exact hz)]
      have d1 : (t == 0) = true := by simp [hz]
      have d2 : (t != 0) = false := by simp [hz]
      rw [HV.out]
      clear HV hz h1 h2 hg hb hp hr
      go_enter Try.func42, Try.ntmps42
      go_wp2_with fail
      go_ret
      exact ⟨rfl, HI.out, HB.out⟩
    · have HV : Hid (stR b x d n = rd x.1 x.2) := by show _ = _; unfold stR; rw [if_neg (by rw [ht]; exact hz)]
      have d1 : (t == 0) = false := by simp [hz]
      have d2 : (t != 0) = true := by simp [hz]
      have HN := Lib.hid (num_any rg x.1 x.2 HI.out.small W HI.out.r)
      have HS : Hid ((rd x.1 x.2).2.1.size ≤ 1000000) := Nat.le_trans (readV_size _ x.1 x.2) HI.out.small
      rw [HV.out]
      have eR : readV (fun _ _ => 0) x.1 x.2 = rd x.1 x.2 := rfl
      rw [eR] at HN
      obtain ⟨y, hy⟩ : ∃ y, rd x.1 x.2 = y := ⟨_, rfl⟩
      rw [hy] at HN HS ⊢
      have HH : Hid (g ≠ rg ∧ bb ≠ rg ∧ pb ≠ rg ∧ True ∧ bb < W.heap.size ∧ pb < W.heap.size ∧ g < W.heap.size) := ⟨hr, hb, hp, trivial, lt_of_block HI.out.bits, lt_of_block HI.out.box, lt_of_block HB.out⟩
      clear HV hz h1 h2 hg hb hp hr hy eR
      go_enter Try.func42, Try.ntmps42
      go_wp2_with fail
      refine HN.out.mono ?_
      rintro e w1 ⟨rfl, g1, r1⟩
      have HX : Hid (RdI w0 rg bb pb b w1 y.2 ∧ CB w1 g c) := by
        obtain ⟨q1, q2, q3, q4, q5, q6, q7⟩ := HH.out
        have ot : ∀ k, k ≠ rg → k < W.heap.size → w1.heap[k]? = W.heap[k]? := fun k hk hk2 => g1.block k hk2 (fun e => hk (by injection e))
        exact ⟨⟨(ot _ q2 q5).trans HI.out.bits, (ot _ q3 q6).trans HI.out.box, r1, gr_trans HI.out.gr g1, HS.out⟩, (ot _ q1 q7).trans HB.out⟩
      clear g1 r1 kb kp
      go_wp2_with fail
      go_ret
      exact ⟨rfl, HX.out.1, HX.out.2⟩
/-- What read answers: a command, what is left, and the error. -/
def readC (s : ByteArray) (e : Int) : Cm × (ByteArray × Int) × Int :=
  if (rd s e).2.2 ≠ 0 then (⟨(rd s e).1, 0, 0, 0, 0, 0, 0⟩, (rd s e).2, (rd s e).2.2)
  else if isK (rd s e).1 then ((eachV (stR (hasB (rd s e).1)) (rd s e).2 ⟨(rd s e).1, 0, 0, 0, 0, 0, 0⟩).1, (eachV (stR (hasB (rd s e).1)) (rd s e).2 ⟨(rd s e).1, 0, 0, 0, 0, 0, 0⟩).2, (eachV (stR (hasB (rd s e).1)) (rd s e).2 ⟨(rd s e).1, 0, 0, 0, 0, 0, 0⟩).2.2)
  else (⟨(rd s e).1, 0, 0, 0, 0, 0, 0⟩, (rd s e).2, 3)
/-- read answers so. -/
def RdC (g : Nat) (w : World) (r : Cm × (ByteArray × Int) × Int) (en : Ending) (w' : World) : Prop := en = .returned (.tuple #[cmv r.1, .int .i64 r.2.2]) ∧ Gr g w w' ∧ RAt 68 w' g r.2.1.1 r.2.1.2 ∧ r.2.1.1.size ≤ 1000000
theorem seven_set {w : World} {g : Nat} {a0 a1 a2 a3 a4 a5 a6 : Value} {ty : TypeId} (h : w.heap[g]? = some (.cells #[a0, a1, a2, a3, a4, a5, a6] ty (0, 0))) (x0 x1 x2 x3 x4 x5 x6 : Value) :
    (((((((w.setCell ⟨g, 0, none⟩ x0).setCell ⟨g, 1, none⟩ x1).setCell ⟨g, 2, none⟩ x2).setCell ⟨g, 3, none⟩ x3).setCell ⟨g, 4, none⟩ x4).setCell ⟨g, 5, none⟩ x5).setCell ⟨g, 6, none⟩ x6).heap[g]? = some (.cells #[x0, x1, x2, x3, x4, x5, x6] ty (0, 0)) := by
  have h0 : (w.setCell ⟨g, 0, none⟩ x0).heap[g]? = some (.cells #[x0, a1, a2, a3, a4, a5, a6] ty (0, 0)) := co_set h rfl
  have h1 : ((w.setCell ⟨g, 0, none⟩ x0).setCell ⟨g, 1, none⟩ x1).heap[g]? = some (.cells #[x0, x1, a2, a3, a4, a5, a6] ty (0, 0)) := co_set h0 rfl
  have h2 : (((w.setCell ⟨g, 0, none⟩ x0).setCell ⟨g, 1, none⟩ x1).setCell ⟨g, 2, none⟩ x2).heap[g]? = some (.cells #[x0, x1, x2, a3, a4, a5, a6] ty (0, 0)) := co_set h1 rfl
  have h3 : ((((w.setCell ⟨g, 0, none⟩ x0).setCell ⟨g, 1, none⟩ x1).setCell ⟨g, 2, none⟩ x2).setCell ⟨g, 3, none⟩ x3).heap[g]? = some (.cells #[x0, x1, x2, x3, a4, a5, a6] ty (0, 0)) := co_set h2 rfl
  have h4 : (((((w.setCell ⟨g, 0, none⟩ x0).setCell ⟨g, 1, none⟩ x1).setCell ⟨g, 2, none⟩ x2).setCell ⟨g, 3, none⟩ x3).setCell ⟨g, 4, none⟩ x4).heap[g]? = some (.cells #[x0, x1, x2, x3, x4, a5, a6] ty (0, 0)) := co_set h3 rfl
  have h5 : ((((((w.setCell ⟨g, 0, none⟩ x0).setCell ⟨g, 1, none⟩ x1).setCell ⟨g, 2, none⟩ x2).setCell ⟨g, 3, none⟩ x3).setCell ⟨g, 4, none⟩ x4).setCell ⟨g, 5, none⟩ x5).heap[g]? = some (.cells #[x0, x1, x2, x3, x4, x5, a6] ty (0, 0)) := co_set h4 rfl
  have h6 : (((((((w.setCell ⟨g, 0, none⟩ x0).setCell ⟨g, 1, none⟩ x1).setCell ⟨g, 2, none⟩ x2).setCell ⟨g, 3, none⟩ x3).setCell ⟨g, 4, none⟩ x4).setCell ⟨g, 5, none⟩ x5).setCell ⟨g, 6, none⟩ x6).heap[g]? = some (.cells #[x0, x1, x2, x3, x4, x5, x6] ty (0, 0)) := co_set h5 rfl
  exact h6
theorem seven_cells {w : World} {g : Nat} {a0 a1 a2 a3 a4 a5 a6 : Value} {ty : TypeId} (h : w.heap[g]? = some (.cells #[a0, a1, a2, a3, a4, a5, a6] ty (0, 0))) :
    w.cell? ⟨g, 0, none⟩ = some a0 ∧ w.cell? ⟨g, 1, none⟩ = some a1 ∧ w.cell? ⟨g, 2, none⟩ = some a2 ∧ w.cell? ⟨g, 3, none⟩ = some a3 ∧ w.cell? ⟨g, 4, none⟩ = some a4 ∧ w.cell? ⟨g, 5, none⟩ = some a5 ∧ w.cell? ⟨g, 6, none⟩ = some a6 := by simp [World.cell?, h]
theorem seven_free {w : World} {g : Nat} {cs : Array Value} {ty : TypeId} (h : w.heap[g]? = some (.cells cs ty (0, 0))) (i : Nat) : w.frozen? ⟨g, i, none⟩ = false := by simp [World.frozen?, h]
end Go.Proofs.Ytbpaongnehgodaa
