/- codec.Check. -/
import Derived.Test.YtbpaongnehgodaaCoEach
namespace Go.Proofs.Ytbpaongnehgodaa
open Go.ChangeShapes Go.WideShapes Go.ChangeAt Go.RowKit
/-- What Check's closure does. -/
def stC (b : Int) (e d n : Int) : Int × Int := (n, if bits BinOp.and IntKind.i64 b d = 0 ∧ n ≠ 0 then 3 else e)
/-- What it keeps. -/
structure ChkI (w0 : World) (bb eb : Nat) (b : Int) (W : World) (e : Int) : Prop where
  bits : W.heap[bb]? = some (.cells #[.int .i64 b] 3 (0, 0))
  err : W.heap[eb]? = some (.cells #[.int .i64 e] 24 (0, 0))
  below : Below w0.heap.size w0 W
theorem one_cell {w : World} {g : Nat} {v : Value} {ty : TypeId} (h : w.heap[g]? = some (.cells #[v] ty (0, 0))) : w.cell? ⟨g, 0, none⟩ = some v := by simp [World.cell?, h]
theorem one_free {w : World} {g : Nat} {v : Value} {ty : TypeId} (h : w.heap[g]? = some (.cells #[v] ty (0, 0))) (i : Nat) : w.frozen? ⟨g, i, none⟩ = false := by simp [World.frozen?, h]
set_option maxHeartbeats 4000000 in
theorem chk_ok (w0 : World) (g bb eb : Nat) (b : Int) (hg : w0.heap.size ≤ g) (he : w0.heap.size ≤ eb) (h1 : g ≠ bb) (h2 : g ≠ eb) (h3 : bb ≠ eb) :
    SetOk 28 #[.pointer (some ⟨bb, 0, none⟩), .pointer (some ⟨eb, 0, none⟩)] g (fun _ => ChkI w0 bb eb b) (stC b) where
  enter := fun args w => by first | rfl | exact run_callFunc_user Try.func28
  keeps := fun _ W x c i v h _ => ⟨co_other h.bits h1.symm, co_other h.err h2.symm, h.below.setCell (by exact hg) _⟩
  calls := fun _ W e c _ hI hB d n _ => by
    have kb := one_cell hI.bits
    have ke := one_free hI.err 0
    have kc := one_cell hI.err
    have HI := Lib.hid hI
    have HB := Lib.hid hB
    clear hI hB
    obtain ⟨t, ht⟩ : ∃ t, bits BinOp.and IntKind.i64 b d = t := ⟨_, rfl⟩
    by_cases hz : t = 0
    · by_cases hn : n = 0
      · have HV : Hid (stC b e d n = (n, e)) := by show _ = _; unfold stC; rw [if_neg (by simp [hn])]
        have d1 : (t == 0) = true := by simp [hz]
        have d2 : (n == 0) = true := by simp [hn]
        have d3 : (n != 0) = false := by simp [hn]
        rw [HV.out]
        clear HV hz hn h1 h2 h3 hg he
        go_enter Try.func28, Try.ntmps28
        go_wp2_with fail
        go_ret
        exact ⟨rfl, HI.out, HB.out⟩
      · have HV : Hid (stC b e d n = (n, 3)) := by show _ = _; unfold stC; rw [if_pos ⟨by rw [ht]; exact hz, hn⟩]
        have d1 : (t == 0) = true := by simp [hz]
        have d2 : (n == 0) = false := by simp [hn]
        have d3 : (n != 0) = true := by simp [hn]
        have HX : Hid (ChkI w0 bb eb b (W.setCell ⟨eb, 0, none⟩ (.int .i64 3)) 3 ∧ CB (W.setCell ⟨eb, 0, none⟩ (.int .i64 3)) g c) :=
          ⟨⟨co_other HI.out.bits h3, co_set HI.out.err rfl, HI.out.below.setCell (by exact he) _⟩, co_other HB.out h2⟩
        rw [HV.out]
        clear HV hz hn h1 h2 h3 hg he
        go_enter Try.func28, Try.ntmps28
        go_wp2_with fail
        go_ret
        exact ⟨rfl, HX.out.1, HX.out.2⟩
    · have HV : Hid (stC b e d n = (n, e)) := by show _ = _; unfold stC; rw [if_neg (by rw [ht]; simp [hz])]
      have d1 : (t == 0) = false := by simp [hz]
      rw [HV.out]
      clear HV hz h1 h2 h3 hg he
      go_enter Try.func28, Try.ntmps28
      go_wp2_with fail
      go_ret
      exact ⟨rfl, HI.out, HB.out⟩
/-- What Check tells. -/
def chkV (c : Cm) : Int := if isK c.k then (eachV (stC (hasB c.k)) 0 c).2 else 3
theorem boxes1 (w : World) (a : Obj) : (w.alloc a).heap[w.heap.size]? = some a ∧ Below w.heap.size w (w.alloc a) := ⟨heap_alloc_new w a, (Below.refl _ _).alloc (Nat.le_refl _) _⟩
theorem boxes2 (w : World) (a b : Obj) : ((w.alloc a).alloc b).heap[w.heap.size]? = some a ∧ ((w.alloc a).alloc b).heap[w.heap.size + 1]? = some b ∧ Below w.heap.size w ((w.alloc a).alloc b) := by
  refine ⟨(Below.heap_alloc _ _ _ (by simp)).trans (heap_alloc_new w a), ?_, ((Below.refl _ _).alloc (Nat.le_refl _) _).alloc (by simp) _⟩
  have := heap_alloc_new (w.alloc a) b
  rwa [World.size_alloc] at this
theorem boxes3 (w : World) (a b c : Obj) : (((w.alloc a).alloc b).alloc c).heap[w.heap.size]? = some a ∧ (((w.alloc a).alloc b).alloc c).heap[w.heap.size + 1]? = some b ∧ (((w.alloc a).alloc b).alloc c).heap[w.heap.size + 1 + 1]? = some c ∧ Below w.heap.size w (((w.alloc a).alloc b).alloc c) := by
  obtain ⟨h1, h2, h3⟩ := boxes2 w a b
  refine ⟨(Below.heap_alloc _ _ _ (by simp; omega)).trans h1, (Below.heap_alloc _ _ _ (by simp)).trans h2, ?_, h3.alloc (by simp; omega) _⟩
  have := heap_alloc_new ((w.alloc a).alloc b) c
  rwa [World.size_alloc, World.size_alloc] at this
set_option maxHeartbeats 4000000 in
theorem check_any (c : Cm) (hc : c.In) (w : World) : Calls Try.prog 11 #[cmv c] w (Ret (.int .i64 (chkV c)) w) := by
  have HH := Lib.hid (has_any c.k)
  by_cases hk : isK c.k = true
  · rw [hk] at HH
    have HV : Hid (chkV c = (eachV (stC (hasB c.k)) 0 c).2) := by show _ = _; unfold chkV; rw [if_pos hk]
    have HE : Hid (∀ W, CB W w.heap.size c → ChkI w (w.heap.size + 1) (w.heap.size + 1 + 1) (hasB c.k) W 0 → _) := fun W h1 h2 => each_any (chk_ok w w.heap.size (w.heap.size + 1) (w.heap.size + 1 + 1) (hasB c.k) (Nat.le_refl _) (by omega) (by omega) (by omega) (by omega)) c hc 0 W h1 h2
    have HX := Lib.hid (boxes3 w (.cells #[.int .i64 c.k, .int .i64 c.i, .int .i64 c.m, .int .i64 c.o, .int .i64 c.s, .int .i64 c.q, .int .i64 c.p] 23) (.cells #[.int .i64 (hasB c.k)] 3) (.cells #[.int .i64 0] 24))
    rw [HV.out]
    clear hk hc HV
    obtain ⟨b, hb⟩ : ∃ b, hasB c.k = b := ⟨_, rfl⟩
    rw [hb] at HH HE HX ⊢
    clear hb
    go_enter Try.func11, Try.ntmps11
    go_wp2_with fail
    refine (HH.out _).mono ?_
    rintro e w1 ⟨rfl, rfl⟩
    go_wp2_with fail
    refine (HE.out _ HX.out.1 ⟨HX.out.2.1, HX.out.2.2.1, HX.out.2.2.2⟩).mono ?_
    rintro e w1 ⟨rfl, i1, b1⟩
    have k1 := one_cell i1.err
    have HB := Lib.hid i1.below
    clear i1 b1
    go_wp2_with fail
    go_ret
    exact ⟨rfl, HB.out⟩
  · have hk2 : isK c.k = false := by simpa using hk
    rw [hk2] at HH
    have HV : Hid (chkV c = 3) := by show _ = _; unfold chkV; rw [if_neg hk]
    rw [HV.out]
    clear hk hc hk2 HV
    go_enter Try.func11, Try.ntmps11
    go_wp2_with fail
    refine (HH.out _).mono ?_
    rintro e w1 ⟨rfl, rfl⟩
    go_wp2_with fail
    go_ret
    exact ⟨rfl, by go_grown⟩
end Go.Proofs.Ytbpaongnehgodaa
