/- A slice of bytes of one's own that was made of a text (its array bears a mark behind its last cell): a text appended to it. -/
import Derived.Test.YtbpaongnehgodaaCoLaw1
import Derived.Lib.AppendStr
namespace Go.Proofs.Ytbpaongnehgodaa
open Go.ChangeShapes Go.WideShapes Go.ChangeAt Go.RowKit
/-- A slice of bytes of one's own; what of its array is frozen lies behind its last cell. -/
def OwnM (w : World) (B : Nat) (v : Value) (l : List UInt8) : Prop :=
  ∃ g cap cur fz, v = .slice (some ⟨g, 0, none⟩) l.length cap ∧ B ≤ g ∧ w.heap[g]? = some (.cells cur 5 fz) ∧ (cur.size ≤ fz.1 ∨ fz.2 = 0) ∧ l.length ≤ cap ∧ cur.size = cap ∧ ∀ j (h : j < l.length), cur[j]? = some (.int .u8 (l[j].toNat : Int))
theorem storeM (g T : Nat) (fz : Nat × Nat) : ∀ (vs : List Value) (i : Nat) (cur : Array Value) (w : World), w.heap[g]? = some (.cells cur T fz) → (cur.size ≤ fz.1 ∨ fz.2 = 0) → i + vs.length ≤ cur.size → (∀ v, v ∈ vs → v.oneCell' = true) →
    ∃ w' cur', (storeCells ⟨g, 0, none⟩ vs i).run Try.prog w = .ok () w' ∧ w'.heap[g]? = some (.cells cur' T fz) ∧ cur'.size = cur.size ∧ w.grownBy w' (some g) ∧ (∀ j, j < vs.length → cur'[i + j]? = vs[j]?) ∧ (∀ j, j < i → cur'[j]? = cur[j]?)
  | [], i, cur, w, hg, _, _, _ => ⟨w, cur, rfl, hg, rfl, ⟨rfl, rfl, rfl, Nat.le_refl _, fun _ _ _ => rfl⟩, fun j hj => absurd hj (Nat.not_lt_zero j), fun _ _ => rfl⟩
  | v :: vs, i, cur, w, hg, hf, hl, h1 => by
    have hi : i < cur.size := by simp at hl; omega
    have hadd : (⟨g, 0, none⟩ : Addr).add i = ⟨g, i, none⟩ := by unfold Addr.add; split <;> simp_all
    have hcell : w.cell? ⟨g, i, none⟩ = some cur[i] := by simp [World.cell?, hg, hi]
    have hfro : w.frozen? ⟨g, i, none⟩ = false := by
      obtain ⟨lo, hi'⟩ := fz
      simp only [World.frozen?, hg, Bool.and_eq_false_iff, decide_eq_false_iff_not]
      simp only at hf
      omega
    have hs : (store ((⟨g, 0, none⟩ : Addr).add i) v).run Try.prog w = .ok () (w.setCell ⟨g, i, none⟩ v) := by
      rw [hadd, run_store Try.prog w _ v _ (h1 v (List.mem_cons_self ..)), hcell]
      simp [hfro]
    have hg' : (w.setCell ⟨g, i, none⟩ v).heap[g]? = some (.cells (cur.set! i v) T fz) := by
      simp only [World.setCell, Array.getElem?_modify]
      rw [if_pos trivial, hg]
      rfl
    obtain ⟨w', cur', r1, r2, r3, r4, r5, r6⟩ := storeM g T fz vs (i + 1) (cur.set! i v) _ hg' (by simpa using hf) (by simp at hl ⊢; omega) (fun x hx => h1 x (List.mem_cons_of_mem _ hx))
    refine ⟨w', cur', ?_, r2, by simpa using r3, ?_, ?_, ?_⟩
    · simp only [storeCells, Sem.run_bind, hs, Result.andThen_ok, r1]
    · have a := set_grown2 w ⟨g, i, none⟩ v
      exact ⟨r4.os.trans a.os, r4.tape.trans a.tape, r4.output.trans a.output, Nat.le_trans a.size r4.size, fun k hk hne => (r4.block k (Nat.lt_of_lt_of_le hk a.size) hne).trans (a.block k hk hne)⟩
    · intro j hj
      match j with
      | 0 =>
        rw [Nat.add_zero, r6 i (by omega)]
        simp [hi]
      | j + 1 =>
        have := r5 j (by simp at hj; omega)
        rw [show i + (j + 1) = i + 1 + j by omega, this]
        rfl
    · intro j hj
      rw [r6 j (by omega)]
      simp [show i ≠ j by omega]
theorem run_append_M (B t u ty : Nat) (i : TypeInfo) (ht : Try.prog.underlying t = some (.slice 5)) (hu : Try.prog.underlying u = some .string) (hi : Try.prog.info? 5 = some i) (hz : i.zero = some (.int .u8 0)) (hsize : i.size = 1) (hby : i.bytes = 1)
    (w : World) (v : Value) (l m : List UInt8) (hown : OwnM w B v l) (h63 : l.length + m.length ≤ 1000000000) (hB : B ≤ w.heap.size) :
    ∃ v' w', (Builtin.append_ #[t, u] ty #[v, .string ⟨m.toArray⟩]).run Try.prog w = .ok v' w' ∧ OwnM w' B v' (l ++ m) ∧ w.grownBy w' v.ownBlock := by
  obtain ⟨g, cap, cur, fz, rfl, hbg, hg, hfz, hlc, hcs, hat⟩ := hown
  have hms : (⟨m.toArray⟩ : ByteArray).size = m.length := rfl
  have hcells : Lib.strCells ⟨m.toArray⟩ = m.map (fun b => Value.int .u8 b.toNat) := by simp [Lib.strCells]
  by_cases hroom : l.length + m.length ≤ cap
  · have hf := Lib.run_firstCells_string (P := Try.prog) w 1 ⟨m.toArray⟩
    obtain ⟨w', cur', r1, r2, r3, r4, r5, r6⟩ := storeM g 5 fz (Lib.strCells ⟨m.toArray⟩) l.length cur w hg hfz (by rw [Lib.strCells_length, hms]; omega) (fun x hx => Lib.strCells_oneCell _ x hx)
    have hst : (storeCells ⟨g, l.length, none⟩ (Lib.strCells ⟨m.toArray⟩)).run Try.prog w = .ok () w' := by
      rw [← r1]
      have key : ∀ (vs : List Value) (k : Nat), storeCells ⟨g, l.length, none⟩ vs k = storeCells ⟨g, 0, none⟩ vs (l.length + k) := by
        intro vs
        induction vs with
        | nil => intro k; rfl
        | cons x vs ih =>
          intro k
          have e1 : (⟨g, l.length, none⟩ : Addr).add k = (⟨g, 0, none⟩ : Addr).add (l.length + k) := by rw [add_plain, add_plain]; simp
          simp only [storeCells, e1, ih (k + 1), Nat.add_assoc]
      rw [key _ 0, Nat.add_zero]
    have hroom' : l.length + ByteArray.size ⟨m.toArray⟩ ≤ cap := hroom
    refine ⟨.slice (some ⟨g, 0, none⟩) (l.length + m.length) cap, w', ?_, ⟨g, cap, cur', fz, by simp, hbg, r2, by rw [r3]; exact hfz, by simpa using hroom, by rw [r3, hcs], ?_⟩, r4⟩
    · simp [Builtin.append_, run_underlying ht, run_underlying hu, sizeOf, typeInfo, hi, hsize, Builtin.lenOf, hroom', hf, Addr.add_lit, hst]
      exact hms
    · intro j hj
      by_cases h1 : j < l.length
      · rw [r6 j h1, List.getElem_append_left h1]
        exact hat j h1
      · have h2 : j - l.length < m.length := by simp at hj; omega
        have := r5 (j - l.length) (by rw [Lib.strCells_length, hms]; exact h2)
        rw [show l.length + (j - l.length) = j by omega] at this
        rw [this, List.getElem_append_right (by omega), hcells]
        simp [h2]
  · have holds : ∀ j v, (l.map (fun b => Value.int .u8 b.toNat))[j]? = some v → w.cell? ((⟨g, 0, none⟩ : Addr).add j) = some v := by
      intro j v hv
      obtain ⟨hj, e⟩ := List.getElem?_eq_some_iff.1 hv
      rw [List.length_map] at hj
      rw [add_plain, Nat.zero_add]
      simp only [World.cell?, hg, hat j hj]
      rw [← e]
      simp
    have hr := Lib.run_append_grow_string (P := Try.prog) w t u ty 5 i (.int .u8 0) ht hu hi hz ⟨g, 0, none⟩ l.length cap (l.map (fun b => Value.int .u8 b.toNat)) (by rw [hsize]; simp) holds ⟨m.toArray⟩ (by rw [hms]; omega) (by rw [hms]; omega) (by rw [hby, hms]; exact growslice_fits (by omega) (by omega))
    have hge := grownCap_ge w (l.length + m.length) cap 5
    refine ⟨_, _, hr, ⟨w.heap.size, _, _, (0, 0), by rw [hms, List.length_append], hB, heap_alloc_new w.drew _, Or.inr rfl, by rw [List.length_append]; exact hge, ?_, ?_⟩, ⟨rfl, rfl, rfl, by simp, fun k hk _ => Below.heap_alloc w.drew _ k hk⟩⟩
    · have hz1 : (Value.int IntKind.u8 0).cells.size = 1 := rfl
      rw [hms]
      simp only [Array.size_append, List.size_toArray, size_zeroCells, hz1, Lib.strCells_length, List.length_map, hms]
      omega
    · intro j hj
      rw [hcells]
      have e : ((l.map (fun b => Value.int .u8 b.toNat)).toArray ++ (m.map (fun b => Value.int .u8 b.toNat)).toArray) = ((l ++ m).map (fun b => Value.int .u8 (b.toNat : Int))).toArray := by simp
      rw [e, Array.getElem?_append_left (by simpa using hj)]
      rw [List.getElem?_toArray, List.getElem?_map, List.getElem?_eq_getElem hj]
      rfl
theorem wpList_append_M {ops : Array Oper} {rest : List Oper} {o : Oper} {a : Act} {Q : Exit → Act → World → Prop} (w : World) (hgd : o.guard = none) (sl x : Operand) (t u : Nat)
    (ho : o.op = .call { callee := .builtin .append, args := #[sl, x], argTypes := #[t, u] })
    (B : Nat) (i : TypeInfo) (ht : Try.prog.underlying t = some (.slice 5)) (hu : Try.prog.underlying u = some .string) (hi : Try.prog.info? 5 = some i) (hz : i.zero = some (.int .u8 0)) (hsize : i.size = 1) (hby : i.bytes = 1)
    (v : Value) (l m : List UInt8) (hs : a.eval sl = v) (hown : OwnM w B v l) (hx : a.eval x = .string ⟨m.toArray⟩) (h63 : l.length + m.length ≤ 1000000000) (hB : B ≤ w.heap.size)
    (h : ∀ v' w', OwnM w' B v' (l ++ m) → w.grownBy w' v.ownBlock → wpList Try.prog ops Q rest (a.put o.dst v') w') : wpList Try.prog ops Q (o :: rest) a w := by
  refine wpList_plain hgd fun K hK => ?_
  obtain ⟨v', w', hr, h2, h3⟩ := run_append_M B t u o.type i ht hu hi hz hsize hby w v l m hown h63 hB
  unfold Oper.wp execOp
  simp only [ho, resolve, invoke, builtin, Sem.run_bind, Sem.run_pure, Result.andThen_ok, List.map_toArray, List.map_cons, List.map_nil, hs, hx, hr]
  exact hK _ _ (h v' w' h2 h3)
end Go.Proofs.Ytbpaongnehgodaa
