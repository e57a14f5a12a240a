/- codec.Put. -/
import Derived.Test.YtbpaongnehgodaaCoCheck
namespace Go.Proofs.Ytbpaongnehgodaa
open Go.ChangeShapes Go.WideShapes Go.ChangeAt Go.RowKit
theorem box_of_below {w w1 : World} {cs : Array Value} {ty : TypeId} (h : Below (w.alloc (.cells cs ty)).heap.size (w.alloc (.cells cs ty)) w1) : w1.heap[w.heap.size]? = some (.cells cs ty (0, 0)) := (h.block _ (by simp)).trans (heap_alloc_new _ _)
theorem below_of_box {w w1 : World} {o : Obj} (h : Below (w.alloc o).heap.size (w.alloc o) w1) : Below w.heap.size w w1 := ((Below.refl _ _).alloc (Nat.le_refl _) _).trans (h.mono (by simp))
theorem infoI64 : (Try.prog.info? 2).map (fun i => (i.zero, i.size, i.bytes)) = some (some (.int .i64 0), 1, 8) := by kernel_rfl
/-- Numbers, as values. -/
abbrev iv (n : Int) : Value := .int .i64 n
/-- What Put's closure does. -/
def stP (b : Int) (l : List Int) (d n : Int) : Int × List Int := (n, if bits BinOp.and IntKind.i64 b d = 0 then l else l ++ [n])
theorem row_ne {w : World} {B : Nat} {e ty : TypeId} {size : Nat} {v : Value} {n : Nat} {xs : List Value} {k : Nat} {cs : Array Value} (h : w.ownsRow B e size v n xs) (hk : w.heap[k]? = some (.cells cs ty (0, 0))) (hne : ty ≠ e) : v.ownBlock ≠ some k := by
  rcases h.2 with ⟨rfl, _⟩ | ⟨g, cap, cur, rfl, _, hh, _⟩
  · intro e; cases e
  · intro e1
    have e2 : g = k := by simpa [Value.ownBlock] using e1
    subst e2
    rw [hh] at hk
    simp at hk
    exact hne hk.2.symm
theorem set_grown2 (w : World) (p : Addr) (u : Value) : w.grownBy (w.setCell p u) (some p.block) := ⟨rfl, rfl, rfl, by simp [World.setCell], fun k _ hne => Below.heap_setCell _ _ _ _ (fun e => hne (by rw [e]))⟩
/-- What it keeps. -/
structure PutI (w0 : World) (bb lb : Nat) (b : Int) (j : Nat) (W : World) (l : List Int) : Prop where
  bits : W.heap[bb]? = some (.cells #[.int .i64 b] 3 (0, 0))
  here : ∃ v, W.heap[lb]? = some (.cells #[v] 46 (0, 0)) ∧ W.ownsRow w0.heap.size 2 1 v l.length (l.map iv)
  below : Below w0.heap.size w0 W
  len : l.length ≤ j + 1
  ran : ∀ n, n ∈ l → -9223372036854775808 ≤ n ∧ n ≤ 9223372036854775807
theorem PutI.kept {w0 W : World} {bb lb g i j : Nat} {b : Int} {l : List Int} {c : Cm} {v : Value} (h : PutI w0 bb lb b j W l) (hc : CB W g c) (hg : w0.heap.size ≤ g) (h1 : g ≠ bb) (h2 : g ≠ lb) : PutI w0 bb lb b j (W.setCell ⟨g, i, none⟩ v) l := by
  obtain ⟨x, k1, k2⟩ := h.here
  exact ⟨co_other h.bits h1.symm, ⟨x, co_other k1 h2.symm, World.ownsRow.kept k2 (set_grown2 W ⟨g, i, none⟩ v) (Or.inr (row_ne k2 hc (by decide)))⟩, h.below.setCell (by exact hg) _, h.len, h.ran⟩
set_option maxHeartbeats 4000000 in
theorem put1_ok (w0 : World) (g bb lb : Nat) (b : Int) (hg : w0.heap.size ≤ g) (he : w0.heap.size ≤ lb) (h1 : g ≠ bb) (h2 : g ≠ lb) (h3 : bb ≠ lb) :
    SetOk 24 #[.pointer (some ⟨bb, 0, none⟩), .pointer (some ⟨lb, 0, none⟩)] g (PutI w0 bb lb b) (stP b) where
  enter := fun args w => by first | rfl | exact run_callFunc_user Try.func24
  keeps := fun _ W x c i v h hc => h.kept hc hg h1 h2
  calls := fun j W l c hj hI hB d n hn => by
    have kb := one_cell hI.bits
    obtain ⟨v, hv, hown⟩ := hI.here
    have kv := one_cell hv
    have HI := Lib.hid hI
    have HB := Lib.hid hB
    have HN := Lib.hid hn
    clear hI hB hn
    obtain ⟨t, ht⟩ : ∃ t, bits BinOp.and IntKind.i64 b d = t := ⟨_, rfl⟩
    by_cases hz : t = 0
    · have HV : Hid (stP b l d n = (n, l)) := by show _ = _; unfold stP; rw [if_pos (by rw [ht]; exact hz)]
      have d1 : (t == 0) = true := by simp [hz]
      have d2 : (t != 0) = false := by simp [hz]
      have HX : Hid (PutI w0 bb lb b (j + 1) W l) := ⟨HI.out.bits, HI.out.here, HI.out.below, by have := HI.out.len; omega, HI.out.ran⟩
      rw [HV.out]
      clear HV hz h1 h2 h3 hg he hown hv
      go_enter Try.func24, Try.ntmps24
      go_wp2_with fail
      go_ret
      exact ⟨rfl, HX.out, HB.out⟩
    · have HV : Hid (stP b l d n = (n, l ++ [n])) := by show _ = _; unfold stP; rw [if_neg (by rw [ht]; exact hz)]
      have d1 : (t == 0) = false := by simp [hz]
      have d2 : (t != 0) = true := by simp [hz]
      rw [HV.out]
      obtain ⟨i0, hinf, hz0, hz1, hz2⟩ := info_parts infoI64
      obtain ⟨ao, cap, rfl⟩ : ∃ ao cap, v = .slice ao l.length cap := by
        rcases hown.2 with ⟨rfl, h0⟩ | ⟨g, cap, cur, rfl, _⟩
        · exact ⟨none, 0, by rw [h0]⟩
        · exact ⟨_, _, rfl⟩
      have hlen : l.length ≤ 10 := by have := HI.out.len; omega
      have hsz := HI.out.below.size
      have HNB := Lib.hid (row_ne hown HI.out.bits (by decide))
      have HNL := Lib.hid (row_ne hown hv (by decide))
      have HNG := Lib.hid (row_ne hown HB.out (by decide))
      have HLB : Hid (bb < W.heap.size ∧ lb < W.heap.size ∧ g < W.heap.size) := ⟨lt_of_block HI.out.bits, lt_of_block hv, lt_of_block HB.out⟩
      have HVV := Lib.hid hv
      have H12 : Hid (w0.heap.size ≤ g ∧ w0.heap.size ≤ lb ∧ g ≠ bb ∧ g ≠ lb ∧ bb ≠ lb) := ⟨hg, he, h1, h2, h3⟩
      clear HV hz h1 h2 h3 hg he hv
      go_enter Try.func24, Try.ntmps24
      go_wp2_with (at_builtin; refine wpList_append_near _ rfl _ _ 46 rfl w0.heap.size 2 i0 (.int .i64 0) 8 Try.underlying46 hinf hz0 hz1 hz2 rfl _ l.length _ rfl (hown.alloc _) ⟨W.heap.size, 0, none⟩ 1 (.int .i64 n) rfl ?a1 rfl ?a3 ?a4 ?a5 ?_)
      try (case a1 => rw [World.cell?_alloc_new]; rfl)
      case a3 => unfold maxLen; omega
      case a4 => omega
      case a5 => simp; omega
      intro v3 w3 hown3 hgrow3 _
      obtain ⟨ao3, cap3, rfl⟩ : ∃ ao cap, v3 = .slice ao (l.length + 1) cap := by
        rcases hown3.2 with ⟨_, h0⟩ | ⟨g, cap, cur, e, _⟩
        · omega
        · exact ⟨_, _, e⟩
      have b3 : w3.heap[bb]? = some (.cells #[.int .i64 b] 3 (0, 0)) := (hgrow3.block _ (by simp; have := HLB.out.1; omega) (fun e => HNB.out e.symm)).trans ((Below.heap_alloc _ _ _ HLB.out.1).trans HI.out.bits)
      have l3 := (hgrow3.block _ (by simp; have := HLB.out.2.1; omega) (fun e => HNL.out e.symm)).trans ((Below.heap_alloc _ _ _ HLB.out.2.1).trans HVV.out)
      have c3 : CB w3 g c := (hgrow3.block _ (by simp; have := HLB.out.2.2; omega) (fun e => HNG.out e.symm)).trans ((Below.heap_alloc _ _ _ HLB.out.2.2).trans HB.out)
      have kl := one_cell l3
      have fl := one_free l3 0
      have HBL : Hid (Below w0.heap.size w0 w3) := (HI.out.below.alloc hsz _).grown hgrow3 (by simp; omega) (fun k' hk' => (hown.lt k' hk').1)
      have HX : Hid (PutI w0 bb lb b (j + 1) (w3.setCell ⟨lb, 0, none⟩ (.slice ao3 (l.length + 1) cap3)) (l ++ [n]) ∧ CB (w3.setCell ⟨lb, 0, none⟩ (.slice ao3 (l.length + 1) cap3)) g c) := by
        refine ⟨⟨co_other b3 H12.out.2.2.2.2, ⟨_, co_set l3 rfl, ?_⟩, HBL.out.setCell (by exact H12.out.2.1) _, by simp; have := HI.out.len; omega, ?_⟩, co_other c3 H12.out.2.2.2.1⟩
        · have h4 : w3.ownsRow w0.heap.size 2 1 (.slice ao3 (l.length + 1) cap3) (l ++ [n]).length ((l ++ [n]).map iv) := by simpa using hown3
          exact World.ownsRow.kept h4 (set_grown2 w3 ⟨lb, 0, none⟩ _) (Or.inr (row_ne h4 l3 (by decide)))
        · intro m hm
          rcases List.mem_append.1 hm with h | h
          · exact HI.out.ran m h
          · obtain rfl : m = n := by simpa using h
            exact HN.out
      clear hown hown3 hgrow3 b3 l3 c3 kv
      go_wp2_with fail
      go_ret
      exact ⟨rfl, HX.out.1, HX.out.2⟩
/-- A command's numbers, in order. -/
def putsL (c : Cm) : List Int := (eachV (stP (hasB c.k)) [c.k] c).2
/-- The bytes of numbers. -/
def encL : List Int → List UInt8
  | [] => []
  | n :: l => encN (codeN n) ++ encL l
theorem encL_append (l m : List Int) : encL (l ++ m) = encL l ++ encL m := by
  induction l with
  | nil => rfl
  | cons a l ih => simp [encL, ih]
theorem encs_list (l : List Int) : ∀ k, k ≤ l.length → encs (fun i => l.getD i 0) k = encL (l.take k)
  | 0, _ => by simp [encs, encL]
  | k + 1, h => by
    have hk : k < l.length := by omega
    rw [encs, encs_list l k (by omega), ← List.take_append_getElem (by exact hk), encL_append]
    simp [encL, List.getD_eq_getElem?_getD, hk]
theorem ints_of_row {w : World} {B : Nat} {ao : Option Addr} {cap : Nat} {l : List Int} (h : w.ownsRow B 2 1 (.slice ao l.length cap) l.length (l.map iv)) : IntsAt w ao l.length (fun i => l.getD i 0) := fun hn => by
  have h0 := h
  rcases h.2 with ⟨_, h0⟩ | ⟨g, cap', cur, e, _, hh, _⟩
  · omega
  · have e2 : ao = some ⟨g, 0, none⟩ := by injection e
    subst e2
    refine ⟨g, 0, rfl, lt_of_block hh, fun i hi => ?_⟩
    rw [Nat.zero_add, World.ownsRow.cellAt h0 i (by omega)]
    simp [List.getD_eq_getElem?_getD, hi]
theorem putsL_all (l : List Int) (hl : l.length ≤ 7) (hr : ∀ n, n ∈ l → -9223372036854775808 ≤ n ∧ n ≤ 9223372036854775807) (B : Nat) (ao : Option Addr) (cap : Nat) (w : World) (h : w.ownsRow B 2 1 (.slice ao l.length cap) l.length (l.map iv)) :
    Calls Try.prog 25 #[.slice ao l.length cap] w (Ret (txt (encL l)) w) := by
  have := all_any (fun i => l.getD i 0) l.length cap ao (by omega) (fun i hi => by
    have e : l.getD i 0 = l[i] := by simp [List.getD_eq_getElem?_getD, hi]
    show -9223372036854775808 ≤ l.getD i 0 ∧ _
    rw [e]
    exact hr _ (List.getElem_mem hi)) w (ints_of_row h)
  rwa [encs_list l l.length (Nat.le_refl _), List.take_length] at this
end Go.Proofs.Ytbpaongnehgodaa
