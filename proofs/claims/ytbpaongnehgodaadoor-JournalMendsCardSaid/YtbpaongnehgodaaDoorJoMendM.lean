/- What is whole is frames. -/
import Derived.Test.YtbpaongnehgodaaDoorJoTornM
namespace Go.Proofs.YtbpaongnehgodaaDoor
open Go.ChangeShapes Go.WideShapes Go.ChangeAt Go.RowKit
theorem be4_least : ∀ (L : List UInt8), 4 ≤ L.length → be4 (least L) = L.take 4
  | a :: b :: c :: d :: R, _ => by
    have ha := a.toNat_lt
    have hb := b.toNat_lt
    have hc := c.toNat_lt
    have hd := d.toNat_lt
    have e : least (a :: b :: c :: d :: R) = ((a.toNat * 256 + b.toNat) * 256 + c.toNat) * 256 + d.toNat := by
      simp [least, leastN, byteAt]
    rw [e]
    have k : ∀ (x : UInt8) (n : Nat), n % 256 = x.toNat → UInt8.ofNat n = x := fun x n h => by
      apply UInt8.toNat_inj.1
      simp
      exact h
    unfold be4
    rw [k a _ (by omega), k b _ (by omega), k c _ (by omega), k d _ (by omega)]
    rfl
  | [], h => by simp at h
  | [_], h => by simp at h
  | [_, _], h => by simp at h
  | [_, _, _], h => by simp at h
theorem frame_take (L : List UInt8) (n : Nat) (h : nextR L = .ok n) : frameL ((L.drop 8).take n) = L.take (8 + n) := by
  obtain ⟨h1, h2, h3, h4⟩ := nextR_ok h
  have hl : ((L.drop 8).take n).length = n := by rw [List.length_take, List.length_drop]; omega
  unfold frameL
  rw [hl, h4, h1, be4_least L (by omega), be4_least (L.drop 4) (by rw [List.length_drop]; omega), ← h1]
  have e1 : L.take (8 + n) = L.take 8 ++ (L.drop 8).take n := by rw [List.take_add]
  have e2 : L.take 8 = L.take 4 ++ (L.drop 4).take 4 := by rw [show 8 = 4 + 4 from rfl, List.take_add]
  rw [e1, e2]
theorem scan_front : ∀ (f : Nat) (L : List UInt8), L.take (scanR f L).2.1 = framesL (scanR f L).1 ∧ ∀ r, r ∈ (scanR f L).1 → r.length ≤ 1024
  | 0, L => by simp [scanR, framesL]
  | f + 1, L => by
    simp only [scanR]
    split
    · simp [framesL]
    · cases hn : nextR L with
      | err e => simp [framesL]
      | ok n =>
        obtain ⟨h1, h2, h3, _⟩ := nextR_ok hn
        obtain ⟨i1, i2⟩ := scan_front f (L.drop (8 + n))
        simp only []
        refine ⟨?_, fun r hr => ?_⟩
        · rw [framesL, frame_take L n hn, ← i1, show ∀ a b : Nat, a + b = a + b from fun _ _ => rfl]
          rw [← List.take_add]
        · rcases List.mem_cons.1 hr with rfl | hr
          · rw [List.length_take]; omega
          · exact i2 r hr
/-- What is left behind Mend is whole. -/
theorem front_scan {s : ByteArray} {rs : List (List UInt8)} {n : Nat} {er : Int} (h : scanR s.size s.data.toList = (rs, n, er)) : front s n = ⟨(framesL rs).toArray⟩ ∧ (framesL rs).length = n ∧ (∀ r, r ∈ rs → r.length ≤ 1024) := by
  have hn : n ≤ s.size := by
    have := scan_le s.size s.data.toList
    rw [h] at this
    simpa using this
  obtain ⟨h1, h2⟩ := scan_front s.size s.data.toList
  rw [h] at h1 h2
  simp only [] at h1 h2
  refine ⟨?_, ?_, h2⟩
  · unfold front
    rw [← ofl12 s, ba_take, h1]
  · rw [← h1, List.length_take, len_eq]; omega
end Go.Proofs.YtbpaongnehgodaaDoor
