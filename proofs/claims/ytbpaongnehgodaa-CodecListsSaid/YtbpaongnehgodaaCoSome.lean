/- codec.Some: rows of commands of one's own; what is read. -/
import Derived.Test.YtbpaongnehgodaaCoAllR
import Derived.Deep.AppendLies
namespace Go.Proofs.Ytbpaongnehgodaa
open Go.ChangeShapes Go.WideShapes Go.ChangeAt Go.RowKit
theorem infoCm : (Try.prog.info? 23).map (fun i => (i.zero, i.size, i.bytes)) = some (some (.agg #[.int .i64 0, .int .i64 0, .int .i64 0, .int .i64 0, .int .i64 0, .int .i64 0, .int .i64 0]), 7, 56) := by kernel_rfl
/-- Commands, as values, one behind the other. -/
def cms : List Cm → List Value
  | [] => []
  | c :: l => [.int .i64 c.k, .int .i64 c.i, .int .i64 c.m, .int .i64 c.o, .int .i64 c.s, .int .i64 c.q, .int .i64 c.p] ++ cms l
theorem cms_append (l m : List Cm) : cms (l ++ m) = cms l ++ cms m := by
  induction l with
  | nil => rfl
  | cons c l ih => simp [cms, ih]
theorem cms_len (l : List Cm) : (cms l).length = l.length * 7 := by
  induction l with
  | nil => rfl
  | cons c l ih => simp [cms, ih]; omega
theorem cms_at : ∀ (l : List Cm) (i j : Nat), i < l.length → j < 7 → (cms l)[i * 7 + j]? = [Value.int .i64 (l.getD i zeroC).k, .int .i64 (l.getD i zeroC).i, .int .i64 (l.getD i zeroC).m, .int .i64 (l.getD i zeroC).o, .int .i64 (l.getD i zeroC).s, .int .i64 (l.getD i zeroC).q, .int .i64 (l.getD i zeroC).p][j]?
  | [], i, j, h, _ => absurd h (Nat.not_lt_zero i)
  | c :: l, 0, j, _, hj => by
    simp only [cms]
    rw [Nat.zero_mul, Nat.zero_add, List.getElem?_append_left (by simpa using hj)]
    rfl
  | c :: l, i + 1, j, h, hj => by
    simp only [cms]
    rw [List.getElem?_append_right (by simp; omega)]
    have e : (i + 1) * 7 + j - [Value.int .i64 c.k, .int .i64 c.i, .int .i64 c.m, .int .i64 c.o, .int .i64 c.s, .int .i64 c.q, .int .i64 c.p].length = i * 7 + j := by simp; omega
    rw [e, cms_at l i j (by simpa using h) hj]
    rfl
/-- The commands of a list. -/
abbrev atC (l : List Cm) : Nat → Cm := fun i => l.getD i zeroC
theorem cms_row {w : World} {B : Nat} {ao : Option Addr} {cap : Nat} {l : List Cm} (h : w.ownsRow B 23 7 (.slice ao l.length cap) l.length (cms l)) : CmsAt w ao l.length (atC l) := fun hn => by
  have h0 := h
  rcases h.2 with ⟨_, h0⟩ | ⟨g, cap', cur, e, _, hh, _⟩
  · omega
  · have e2 : ao = some ⟨g, 0, none⟩ := by injection e
    subst e2
    refine ⟨g, 0, rfl, lt_of_block hh, fun i hi => ?_⟩
    have key : ∀ j, j < 7 → w.cell? ⟨g, 0 + i * 7 + j, none⟩ = [Value.int .i64 (l.getD i zeroC).k, .int .i64 (l.getD i zeroC).i, .int .i64 (l.getD i zeroC).m, .int .i64 (l.getD i zeroC).o, .int .i64 (l.getD i zeroC).s, .int .i64 (l.getD i zeroC).q, .int .i64 (l.getD i zeroC).p][j]? := fun j hj => by
      rw [Nat.zero_add, World.ownsRow.cellAt h0 (i * 7 + j) (by omega), cms_at l i j hi hj]
    exact ⟨key 0 (by omega), key 1 (by omega), key 2 (by omega), key 3 (by omega), key 4 (by omega), key 5 (by omega), key 6 (by omega)⟩
/-- What reading n commands tells: the first error, or they, and what is left. -/
def someN : Nat → (ByteArray × Int) → List Cm → Sum Int (List Cm × (ByteArray × Int))
  | 0, x, l => .inr (l, x)
  | n + 1, x, l => if (readC x.1 x.2).2.2 ≠ 0 then .inl (readC x.1 x.2).2.2 else someN n (readC x.1 x.2).2.1 (l ++ [(readC x.1 x.2).1])
/-- How many are to be read. -/
def upT (s : ByteArray) : Int × ByteArray × Int := readV (fun n _ => uptoM 1024 n) s 0
theorem upT_in (s : ByteArray) : 0 ≤ (upT s).1 ∧ (upT s).1 ≤ 1024 := by
  unfold upT readV
  rw [if_neg (by simp)]
  split
  · exact ⟨by show (0 : Int) ≤ 0; decide, by show (0 : Int) ≤ 1024; decide⟩
  · exact ⟨by show (0 : Int) ≤ 0; decide, by show (0 : Int) ≤ 1024; decide⟩
  · split
    · rename_i v m _ hm
      simp only [] at hm ⊢
      unfold uptoM at hm
      split at hm
      · exact absurd hm (by decide)
      · omega
    · exact ⟨by show (0 : Int) ≤ 0; decide, by show (0 : Int) ≤ 1024; decide⟩
/-- What Some tells. -/
def someR (s : ByteArray) : Sum Int (List Cm × (ByteArray × Int)) := someN (upT s).1.toNat (upT s).2 []
/-- The commands of bytes, or the error. -/
def someA (s : ByteArray) : Sum Int (List Cm) := match someR s with
  | .inl e => .inl e
  | .inr (l, x) => if endV x.1 x.2 ≠ 0 then .inl (endV x.1 x.2) else .inr l
/-- Some answers so. -/
def SomeP (s : ByteArray) (w : World) (e : Ending) (w' : World) : Prop :=
  Below w.heap.size w w' ∧ ((∃ x, someA s = .inl x ∧ e = .returned (.tuple #[.slice none 0 0, .int .i64 x])) ∨ (∃ l ao cap, someA s = .inr l ∧ e = .returned (.tuple #[.slice ao l.length cap, .int .i64 0]) ∧ CmsAt w' ao l.length (atC l)))
theorem someN_len : ∀ (n : Nat) (x : ByteArray × Int) (l m : List Cm) (y : ByteArray × Int), someN n x l = .inr (m, y) → m.length = l.length + n
  | 0, x, l, m, y, h => by simp [someN] at h; simp [h.1]
  | n + 1, x, l, m, y, h => by
    rw [someN] at h
    split at h
    · cases h
    · have := someN_len n _ _ _ _ h
      simp at this
      omega
theorem someN_err : ∀ (n : Nat) (x : ByteArray × Int) (l : List Cm) (e : Int), someN n x l = .inl e → e ≠ 0
  | 0, x, l, e, h => by simp [someN] at h
  | n + 1, x, l, e, h => by
    rw [someN] at h
    split at h
    · rename_i hh
      injection h with h
      rw [← h]; exact hh
    · exact someN_err n _ _ _ h
theorem someA_err {s : ByteArray} {e : Int} (h : someA s = .inl e) : e ≠ 0 := by
  unfold someA at h
  cases hr : someR s with
  | inl x =>
    rw [hr] at h
    injection h with h
    rw [← h]; exact someN_err _ _ _ _ hr
  | inr p =>
    obtain ⟨l, x⟩ := p
    rw [hr] at h
    simp only [] at h
    split at h
    · rename_i hh
      injection h with h
      rw [← h]; exact hh
    · cases h
theorem readC_size (s : ByteArray) (e : Int) (h : (readC s e).2.2 = 0) : (readC s e).2.1.1.size ≤ s.size := by
  have := (read_back s e h).2.2.2.2
  have h2 := congrArg List.length this
  simp at h2
  have e1 : s.size = s.data.size := rfl
  have e2 : (readC s e).2.1.1.size = (readC s e).2.1.1.data.size := rfl
  omega
end Go.Proofs.Ytbpaongnehgodaa
