/- DiskKeeps, walked (made by gen_dkeep.py). -/
import Derived.Test.YthmbpoldjddheaaDskCrLaw
import Derived.Test.YthmbpoldjddheaaDskSync
namespace Go.Proofs.Ythmbpoldjddheaa
open Go.ChangeShapes Go.WideShapes Go.ChangeAt Go.RowKit
/-- n acts lie at the address, three cells each; of none nothing is said. -/
def DActs (w : World) (ao : Option Addr) (n : Nat) (k : Nat → Int) (x : Nat → ByteArray) (y : Nat → Int) : Prop :=
  0 < n → ∃ b off, ao = some ⟨b, off, none⟩ ∧ b < w.heap.size ∧ ∀ i, i < n → w.cell? ⟨b, off + i * 3, none⟩ = some (.int .i64 (k i)) ∧ w.cell? ⟨b, off + i * 3 + 1, none⟩ = some (.string (x i)) ∧ w.cell? ⟨b, off + i * 3 + 2, none⟩ = some (.int .i64 (y i))
theorem DActs.below {w w' : World} {ao : Option Addr} {n : Nat} {k : Nat → Int} {x : Nat → ByteArray} {y : Nat → Int} (h : DActs w ao n k x y) (hb : Below w.heap.size w w') : DActs w' ao n k x y := fun hn => by
  obtain ⟨b, off, e, hlt, hc⟩ := h hn
  exact ⟨b, off, e, Nat.lt_of_lt_of_le hlt hb.size, fun i hi => ⟨(hb.cell (by exact hlt)).trans (hc i hi).1, (hb.cell (by exact hlt)).trans (hc i hi).2.1, (hb.cell (by exact hlt)).trans (hc i hi).2.2⟩⟩
theorem ba_nil (x : ByteArray) : x ++ ⟨#[]⟩ = x := by
  apply ByteArray.ext
  rw [ByteArray.data_append]
  simp
theorem ba_whole (x : ByteArray) : x.extract 0 x.size = x := by
  apply ByteArray.ext
  rw [ByteArray.data_extract]
  show x.data.extract 0 x.data.size = x.data
  simp
/-- A disk, what is sure, and all that was written, as they stand behind so many acts. -/
structure Keeps (i : Nat) (s t : ByteArray) (f : Int) (sure all : ByteArray) : Prop where
  hall : all = s ++ t
  le : sure.size ≤ s.size
  hpre : s.extract 0 sure.size = sure
  size : s.size + t.size ≤ i * 50
  fuse : -1 ≤ f ∧ f ≤ 254
theorem Keeps.small {i : Nat} {s t : ByteArray} {f : Int} {sure all : ByteArray} (h : Keeps i s t f sure all) (hi : i ≤ 40) : Small s t := by
  have := h.size
  exact ⟨by omega, by omega⟩
theorem Keeps.same {i : Nat} {s t : ByteArray} {f : Int} {sure all : ByteArray} (h : Keeps i s t f sure all) : Keeps (i + 1) s t f sure all := ⟨h.hall, h.le, h.hpre, by have := h.size; omega, h.fuse⟩
theorem Keeps.write {i : Nat} {s t x : ByteArray} {f : Int} {sure all : ByteArray} (h : Keeps i s t f sure all) (hx : x.size ≤ 50) : Keeps (i + 1) s (t ++ x) (gfu f) sure (all ++ x) := by
  refine ⟨by rw [h.hall, ByteArray.append_assoc], h.le, h.hpre, ?_, ?_⟩
  · rw [ByteArray.size_append]; have := h.size; omega
  · have := h.fuse; unfold gfu; split <;> omega
theorem Keeps.sync {i : Nat} {s t : ByteArray} {f : Int} {sure all : ByteArray} (h : Keeps i s t f sure all) : Keeps (i + 1) (s ++ t) ⟨#[]⟩ (gfu f) all all := by
  refine ⟨by rw [h.hall, ba_nil], by rw [h.hall]; exact Nat.le_refl _, by rw [h.hall, ba_whole], ?_, ?_⟩
  · rw [ByteArray.size_append]; have := h.size; show _ + _ + 0 ≤ _; omega
  · have := h.fuse; unfold gfu; split <;> omega
theorem Keeps.crash {i k : Nat} {s t : ByteArray} {f : Int} {sure all : ByteArray} (h : Keeps i s t f sure all) (hk : k ≤ t.size) : Keeps (i + 1) (Go.Proofs.Ythmbpoldjddheaa.pre s t k) ⟨#[]⟩ (-1) (Go.Proofs.Ythmbpoldjddheaa.pre s t k) (Go.Proofs.Ythmbpoldjddheaa.pre s t k) := by
  refine ⟨(ba_nil _).symm, Nat.le_refl _, ba_whole _, ?_, by omega⟩
  have := Go.Proofs.Ythmbpoldjddheaa.pre_size s t k hk
  have := h.size
  show (Go.Proofs.Ythmbpoldjddheaa.pre s t k).size + 0 ≤ _
  omega
/-- All bytes, as far as those that are synced behind a crash. -/
theorem Keeps.cut {i k : Nat} {s t : ByteArray} {f : Int} {sure all : ByteArray} (h : Keeps i s t f sure all) (hk : k ≤ t.size) : all.extract 0 (Go.Proofs.Ythmbpoldjddheaa.pre s t k).size = Go.Proofs.Ythmbpoldjddheaa.pre s t k ∧ (Go.Proofs.Ythmbpoldjddheaa.pre s t k).size ≤ all.size := by
  rw [h.hall, Go.Proofs.Ythmbpoldjddheaa.pre_size s t k hk, ByteArray.size_append]
  refine ⟨?_, by omega⟩
  unfold Go.Proofs.Ythmbpoldjddheaa.pre
  obtain ⟨a⟩ := s
  obtain ⟨b⟩ := t
  apply ByteArray.ext
  rw [ByteArray.data_extract, ByteArray.data_append, ByteArray.data_append, ByteArray.data_extract]
  show (a ++ b).extract 0 (a.size + k) = a ++ b.extract 0 k
  rw [Array.extract_append, Nat.add_sub_cancel_left, Array.extract_eq_self_of_le (Nat.le_add_right _ _), Nat.zero_sub]
theorem opV_wr {s t : ByteArray} {f : Int} {x : ByteArray} (h : -1 ≤ f) : opV s t f false 0 s (t ++ x) s (t ++ x) = .tuple #[.agg #[.string s, .string (t ++ x), .int .i64 (gfu f), .bool (decide (f = 0))], .int .i64 (if f = 0 then 16 else 0)] := by
  by_cases hz : f = 0
  · subst hz; rfl
  · rw [opV_k (by omega) hz, if_neg hz, decide_eq_false hz]
end Go.Proofs.Ythmbpoldjddheaa
