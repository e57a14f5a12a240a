/- codec.All: the bytes of some. -/
import Derived.Test.YtbpaongnehgodaaCoAppM
namespace Go.Proofs.Ytbpaongnehgodaa
open Go.ChangeShapes Go.WideShapes Go.ChangeAt Go.RowKit
/-- n commands lie at the address, seven cells each; of none nothing is said. -/
def CmsAt (w : World) (ao : Option Addr) (n : Nat) (f : Nat → Cm) : Prop :=
  0 < n → ∃ b off, ao = some ⟨b, off, none⟩ ∧ b < w.heap.size ∧ ∀ i, i < n → w.cell? ⟨b, off + i * 7, none⟩ = some (.int .i64 (f i).k) ∧ w.cell? ⟨b, off + i * 7 + 1, none⟩ = some (.int .i64 (f i).i) ∧ w.cell? ⟨b, off + i * 7 + 2, none⟩ = some (.int .i64 (f i).m) ∧ w.cell? ⟨b, off + i * 7 + 3, none⟩ = some (.int .i64 (f i).o) ∧ w.cell? ⟨b, off + i * 7 + 4, none⟩ = some (.int .i64 (f i).s) ∧ w.cell? ⟨b, off + i * 7 + 5, none⟩ = some (.int .i64 (f i).q) ∧ w.cell? ⟨b, off + i * 7 + 6, none⟩ = some (.int .i64 (f i).p)
theorem CmsAt.below {w w' : World} {ao : Option Addr} {n : Nat} {f : Nat → Cm} (h : CmsAt w ao n f) (hb : Below w.heap.size w w') : CmsAt w' ao n f := fun hn => by
  obtain ⟨b, off, e, hlt, hc⟩ := h hn
  refine ⟨b, off, e, Nat.lt_of_lt_of_le hlt hb.size, fun i hi => ?_⟩
  obtain ⟨c0, c1, c2, c3, c4, c5, c6⟩ := hc i hi
  exact ⟨(hb.cell (by exact hlt)).trans c0, (hb.cell (by exact hlt)).trans c1, (hb.cell (by exact hlt)).trans c2, (hb.cell (by exact hlt)).trans c3, (hb.cell (by exact hlt)).trans c4, (hb.cell (by exact hlt)).trans c5, (hb.cell (by exact hlt)).trans c6⟩
/-- The bytes of the first k. -/
def flatB (f : Nat → Cm) : Nat → List UInt8
  | 0 => []
  | k + 1 => flatB f k ++ bytesC (f k)
theorem bytesC_len (c : Cm) (hc : c.In) : (bytesC c).length ≤ 110 := by
  have h1 := encL_len (numsL_in c hc (lets c.k) (lets c.k).length)
  have h2 := lets_len c.k
  have h3 : (numsL c (lets c.k) (lets c.k).length).length ≤ 11 := by unfold numsL; simp; omega
  unfold bytesC
  omega
theorem flatB_len (f : Nat → Cm) (hf : ∀ i, (f i).In) : ∀ k, (flatB f k).length ≤ 110 * k
  | 0 => by simp [flatB]
  | k + 1 => by
    have := flatB_len f hf k
    have := bytesC_len (f k) (hf k)
    rw [flatB, List.length_append]; omega
theorem grown_drewn {u v : World} {r : Option Nat} (h : u.drew.grownBy v r) : u.grownBy v r := ⟨h.os, h.tape, h.output, h.size, h.block⟩
theorem OwnM.made (w : World) (B : Nat) (hB : B ≤ w.heap.size) (l : List UInt8) (cap : Nat) (hc : l.length ≤ cap) :
    OwnM (w.drew.alloc (.cells (bytesRow ⟨l.toArray⟩ cap) 5 ((bytesRow ⟨l.toArray⟩ cap).size, (bytesRow ⟨l.toArray⟩ cap).size + 1))) B (.slice (some ⟨w.heap.size, 0, none⟩) l.length cap) l := by
  have hsz : (bytesRow ⟨l.toArray⟩ cap).size = cap := by
    unfold bytesRow
    have : (⟨l.toArray⟩ : ByteArray).size = l.length := rfl
    simp [this]
    omega
  refine ⟨w.heap.size, cap, _, _, rfl, hB, heap_alloc_new w.drew _, Or.inl (Nat.le_refl _), hc, hsz, fun j hj => ?_⟩
  have := bytesRow_at ⟨l.toArray⟩ cap j (by simpa using hj)
  rw [this]
  rfl
theorem OwnM.lt {w : World} {B : Nat} {v : Value} {l : List UInt8} (h : OwnM w B v l) : ∀ k, v.ownBlock = some k → B ≤ k ∧ k < w.heap.size := by
  obtain ⟨g, cap, cur, fz, rfl, hb, hg, _⟩ := h
  intro k hk
  have e : g = k := by simpa [Value.ownBlock] using hk
  subst e
  exact ⟨hb, lt_of_block hg⟩
theorem OwnM.kept {w w' : World} {B : Nat} {v : Value} {l : List UInt8} (h : OwnM w B v l) (hb : Below w.heap.size w w') : OwnM w' B v l := by
  obtain ⟨g, cap, cur, fz, e, h1, hg, rest⟩ := h
  exact ⟨g, cap, cur, fz, e, h1, (hb.block _ (lt_of_block hg)).trans hg, rest⟩
theorem OwnM.text {w : World} {B g n cap : Nat} {l : List UInt8} (h : OwnM w B (.slice (some ⟨g, 0, none⟩) n cap) l) :
    (convert 62 9 (.slice (some ⟨g, 0, none⟩) n cap)).run Try.prog w = .ok (txt l) w := by
  obtain ⟨g', cap', cur, fz, e, _, hg, _, _, _, hat⟩ := h
  injection e with e1 e2 e3
  have e4 : g = g' := by simpa using e1
  subst e4 e2 e3
  exact run_convert_bytes_back (P := Try.prog) w 62 9 5 ⟨g, 0, none⟩ cap l Try.underlying62 Try.underlying5 Try.underlying9 (fun j hj => by
    rw [add_plain, Nat.zero_add]
    simp only [World.cell?, hg]
    exact hat j hj)
end Go.Proofs.Ytbpaongnehgodaa
