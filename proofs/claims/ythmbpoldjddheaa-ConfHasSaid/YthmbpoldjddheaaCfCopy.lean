/- copy of rows of two cells; a row said over and over. -/
import Derived.Test.YthmbpoldjddheaaCfTicks
import Derived.Laws.CopyOwn
namespace Go.Proofs.Ythmbpoldjddheaa
open Go.ChangeShapes Go.WideShapes Go.ChangeAt Go.RowKit
theorem run_copy_two {P : Program} (w : World) (dT sT ty elem : TypeId) (g o dLen dCap : Nat) (a : Addr) (sLen sCap k : Nat) (cur : Array Value) (t : TypeId) (cs : List Value)
    (hu : P.underlying dT = some (.slice elem)) (hs : (P.info? elem).map (·.size) = some 2) (hk : Nat.min sLen dLen = k)
    (hg : w.heap[g]? = some (.cells cur t (0, 0))) (hn : cs.length = k * 2)
    (hsrc : ∀ j v, cs[j]? = some v → w.cell? (a.add j) = some v) (hfit : o + cs.length ≤ cur.size) (h1 : ∀ v ∈ cs, v.oneCell' = true) :
    (Builtin.copy_ #[dT, sT] ty #[.slice (some ⟨g, o, none⟩) dLen dCap, .slice (some a) sLen sCap]).run P w =
      .ok (goInt k) (w.setRow g (cur.toList.take o ++ cs ++ cur.toList.drop (o + cs.length)).toArray) := by
  have hl := run_loadCells_list (P := P) w a cs hsrc
  have hst := run_storeCells_at P g o t cs 0 cur w hg (by simpa using hfit) h1
  cases hq : P.info? elem with
  | none => simp [hq] at hs
  | some i =>
    have hi : i.size = 2 := by simpa [hq] using hs
    simp [Builtin.copy_, run_underlying hu, Builtin.lenOf, Builtin.firstCells, sizeOf, typeInfo, hq, hi, hk, ← hn, hl, hst]
theorem wpList_copy_two {P : Program} {w : World} {ops : Array Oper} {rest : List Oper} {o : Oper} {a : Act} {Q : Exit → Act → World → Prop} (hgd : o.guard = none) (d s : Operand) (dT sT : TypeId)
    (ho : o.op = .call { callee := .builtin .copy, args := #[d, s], argTypes := #[dT, sT] }) (elem : TypeId) (hu : P.underlying dT = some (.slice elem)) (hsz : (P.info? elem).map (·.size) = some 2)
    (g off dLen dCap : Nat) (ad : Addr) (sLen sCap k : Nat) (hd : a.eval d = .slice (some ⟨g, off, none⟩) dLen dCap) (hs : a.eval s = .slice (some ad) sLen sCap) (hk : Nat.min sLen dLen = k)
    (cur : List Value) (t : TypeId) (hg : w.heap[g]? = some (.cells cur.toArray t (0, 0))) (cs : List Value) (hn : cs.length = k * 2)
    (hsrc : ∀ j v, cs[j]? = some v → w.cell? (ad.add j) = some v) (hfit : off + cs.length ≤ cur.length) (h1 : ∀ v ∈ cs, v.oneCell' = true) (B : Nat) (w0 : World) (hb : Below B w0 w) (hBg : B ≤ g)
    (h : ∀ w', Hid (w'.heap[g]? = some (.cells (splice cur off cs).toArray t (0, 0))) → Hid (Below B w0 w') → wpList P ops Q rest (a.put o.dst (goInt k)) w') :
    wpList P ops Q (o :: rest) a w := by
  refine wpList_plain hgd fun K hK => ?_
  have hrun := run_copy_two (P := P) w dT sT o.type elem g off dLen dCap ad sLen sCap k cur.toArray t cs hu hsz hk hg hn hsrc (by simpa using hfit) h1
  unfold Oper.wp
  simp [execOp, ho, resolve, invoke, builtin, hd, hs, hrun, Result.andThen]
  exact hK _ _ (h _ (show _ = _ by simpa [splice] using setRow_heap w g _ _ t _ hg) (below_setRow hb hBg _))
theorem step_copy_two {P : Program} {ops : Array Oper} {o : Oper} {a : Act} {w : World} {K : Act → World → Prop} {Q : Exit → Act → World → Prop} {E : Prop} (hgd : o.guard = none) (d s : Operand) (dT sT : TypeId)
    (ho : o.op = .call { callee := .builtin .copy, args := #[d, s], argTypes := #[dT, sT] }) (elem : TypeId) (hu : P.underlying dT = some (.slice elem)) (hsz : (P.info? elem).map (·.size) = some 2)
    (g off dLen dCap : Nat) (ad : Addr) (sLen sCap k : Nat) (hd : a.eval d = .slice (some ⟨g, off, none⟩) dLen dCap) (hs : a.eval s = .slice (some ad) sLen sCap) (hk : Nat.min sLen dLen = k)
    (cur : List Value) (t : TypeId) (hg : w.heap[g]? = some (.cells cur.toArray t (0, 0))) (cs : List Value) (hn : cs.length = k * 2)
    (hsrc : ∀ j v, cs[j]? = some v → w.cell? (ad.add j) = some v) (hfit : off + cs.length ≤ cur.length) (h1 : ∀ v ∈ cs, v.oneCell' = true) (B : Nat) (w0 : World) (hb : Below B w0 w) (hBg : B ≤ g)
    (h : ∀ w', Hid (w'.heap[g]? = some (.cells (splice cur off cs).toArray t (0, 0))) → Hid (Below B w0 w') → K (a.put o.dst (goInt k)) w') :
    if Region.wanted o (yielded ops a.tmps) = true then Oper.wp P o a w K Q else E := by
  have hw : Region.wanted o (yielded ops a.tmps) = true := by simp [Region.wanted, hgd]
  rw [if_pos hw]
  have hrun := run_copy_two (P := P) w dT sT o.type elem g off dLen dCap ad sLen sCap k cur.toArray t cs hu hsz hk hg hn hsrc (by simpa using hfit) h1
  unfold Oper.wp
  simp [execOp, ho, resolve, invoke, builtin, hd, hs, hrun, Result.andThen]
  exact h _ (show _ = _ by simpa [splice] using setRow_heap w g _ _ t _ hg) (below_setRow hb hBg _)
/-- The pair, so many times. -/
def prs (a b : Value) : Nat → List Value
  | 0 => []
  | n + 1 => a :: b :: prs a b n
theorem prs_length (a b : Value) : ∀ n, (prs a b n).length = n * 2
  | 0 => rfl
  | n + 1 => by simp [prs, prs_length a b n]; omega
theorem prs_add (a b : Value) : ∀ m k, prs a b (m + k) = prs a b m ++ prs a b k
  | 0, k => by rw [Nat.zero_add]; rfl
  | m + 1, k => by rw [show m + 1 + k = (m + k) + 1 by omega, prs, prs, prs_add a b m k]; rfl
theorem prs_one {a b : Value} (ha : a.oneCell' = true) (hb : b.oneCell' = true) : ∀ n, ∀ v ∈ prs a b n, v.oneCell' = true
  | 0, v, h => by cases h
  | n + 1, v, h => by
    rw [prs] at h
    rcases List.mem_cons.1 h with rfl | h
    · exact ha
    · rcases List.mem_cons.1 h with rfl | h
      · exact hb
      · exact prs_one ha hb n v h
theorem prs_at (a b : Value) : ∀ n i, i < n → (prs a b n)[i * 2]? = some a ∧ (prs a b n)[i * 2 + 1]? = some b
  | 0, i, h => by omega
  | n + 1, 0, _ => by rw [prs]; exact ⟨rfl, rfl⟩
  | n + 1, i + 1, h => by
    have := prs_at a b n i (by omega)
    rw [prs, show (i + 1) * 2 = i * 2 + 2 by omega]
    exact this
/-- The first m rows are the pair, the others not yet. -/
def part (a b z : Value) (n m : Nat) : List Value := prs a b m ++ prs z z (n - m)
theorem part_length (a b z : Value) (n m : Nat) (h : m ≤ n) : (part a b z n m).length = n * 2 := by
  rw [part, List.length_append, prs_length, prs_length]; omega
theorem part_splice (a b z : Value) (n m k : Nat) (h : m + k ≤ n) : splice (part a b z n m) (m * 2) (prs a b k) = part a b z n (m + k) := by
  unfold splice part
  have e1 : (prs a b m ++ prs z z (n - m)).take (m * 2) = prs a b m := by
    rw [List.take_append_of_le_length (by rw [prs_length]; exact Nat.le_refl _)]
    exact List.take_of_length_le (by rw [prs_length]; exact Nat.le_refl _)
  have e2 : (prs a b m ++ prs z z (n - m)).drop (m * 2 + (prs a b k).length) = prs z z (n - (m + k)) := by
    rw [prs_length, List.drop_append, prs_length, List.drop_eq_nil_of_le (by rw [prs_length]; omega), List.nil_append]
    rw [show n - m = k + (n - (m + k)) by omega, prs_add, show m * 2 + k * 2 - m * 2 = (prs z z k).length by rw [prs_length]; omega]
    simp
  rw [e1, e2, prs_add, List.append_assoc]
theorem made_part (z : Value) (n : Nat) : (madeCells #[z, z] (n * 2)) = (part z z z n 0).toArray := by
  apply Array.ext
  · simp [madeCells, part_length]
  · intro i h1 h2
    simp only [madeCells, List.getElem_toArray] at *
    rcases (show i % 2 = 0 ∨ i % 2 = 1 by omega) with h | h
    all_goals
      have hi : i < n * 2 := by simpa [part_length] using h2
      have hp := prs_at z z n (i / 2) (by omega)
      have e : part z z z n 0 = prs z z n := by simp [part, prs]
      have hh : (part z z z n 0)[i]? = some z := by
        rw [e]
        first
        | (rw [show i = i / 2 * 2 by omega]; exact hp.1)
        | (rw [show i = i / 2 * 2 + 1 by omega]; exact hp.2)
      have := List.getElem?_eq_some_iff.1 hh
      obtain ⟨_, h5⟩ := this
      rw [h5]
      simp
      try (rcases Nat.mod_two_eq_zero_or_one i with h6 | h6 <;> simp [h6])
theorem add_zero_addr (g j : Nat) : (⟨g, 0, none⟩ : Addr).add j = ⟨g, j, none⟩ := by unfold Addr.add; split <;> simp_all
theorem news_two (W : World) {g : Nat} {a b : Value} {T : TypeId} (h : W.heap[g]? = some (.cells #[a, b] T (0, 0))) : ∀ j u, [a, b][j]? = some u → W.cell? ((⟨g, 0, none⟩ : Addr).add j) = some u := by
  intro j u hj
  rw [add_zero_addr]
  simp only [World.cell?, h]
  match j, hj with
  | 0, hj => simpa using hj
  | 1, hj => simpa using hj
theorem part_src {W : World} {g n m k : Nat} {a b z : Value} {T : TypeId} (h : W.heap[g]? = some (.cells (part a b z n m).toArray T (0, 0))) (hk : k ≤ m) : ∀ j u, (prs a b k)[j]? = some u → W.cell? ((⟨g, 0, none⟩ : Addr).add j) = some u := by
  intro j u hj
  rw [add_zero_addr]
  have hjk : j < k * 2 := by have := (List.getElem?_eq_some_iff.1 hj).1; rwa [prs_length] at this
  have e : (part a b z n m)[j]? = some u := by
    unfold part
    rw [show m = k + (m - k) by omega, prs_add, List.append_assoc, List.getElem?_append_left (by rw [prs_length]; exact hjk)]
    exact hj
  simp only [World.cell?, h]
  simpa using e
theorem part_fit {n m k : Nat} {a b z : Value} (h : m + k ≤ n) : m * 2 + (prs a b k).length ≤ (part a b z n m).length := by
  rw [prs_length, part_length _ _ _ _ _ (by omega)]; omega
end Go.Proofs.Ythmbpoldjddheaa
