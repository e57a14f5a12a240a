/- Tables: Get. -/
import Derived.Test.YthmbpoldjddheaaTabFind
namespace Go.Proofs.Ythmbpoldjddheaa
open Go.ChangeShapes Go.WideShapes Go.ChangeAt Go.RowKit
theorem TabAt.below {w w' : World} {g room n : Nat} {a : Nat → Int} {s : Nat → ByteArray} (h : TabAt w g room n a s) (hb : Below w.heap.size w w') : TabAt w' g room n a s := by
  obtain ⟨h0, h1, ⟨ao, cap, h2, h3⟩, h4⟩ := h
  exact ⟨Nat.lt_of_lt_of_le h0 hb.size, (hb.cell (by exact h0)).trans h1, ⟨ao, cap, (hb.cell (by exact h0)).trans h2, h3.below hb⟩, h4⟩
/-- What Get answers: the thing of the row x, or that there is none. -/
def GetQ (a : Nat → Int) (s : Nat → ByteArray) (n : Nat) (x : Int) (w : World) (e : Ending) (w' : World) : Prop :=
  Below w.heap.size w w' ∧ ((∃ p, p < n ∧ a p = x ∧ e = .returned (.tuple #[.string (s p), .int .i64 0])) ∨ ((∀ i, i < n → a i ≠ x) ∧ e = .returned (.tuple #[.string ⟨#[]⟩, .int .i64 8])))
theorem Place.no {a : Nat → Int} {n : Nat} {x : Int} {p : Nat} (h : Place a n x p) (hr : Rises a n) (hn : ¬ (p < n ∧ a p = x)) : ∀ i, i < n → a i ≠ x := fun i hi e => by
  rcases Nat.lt_trichotomy i p with l | l | l
  · have := h.lo i l; omega
  · rw [l] at hi e; exact hn ⟨hi, e⟩
  · have := h.hi p (Nat.le_refl _) (by omega)
    have := hr p i l hi
    omega
set_option maxHeartbeats 2000000 in
theorem get_any (g room n : Nat) (a : Nat → Int) (s : Nat → ByteArray) (x : Int) (hn : n ≤ 1000000) (w : World) (h : TabAt w g room n a s) :
    Calls Try.prog 16 #[.pointer (some ⟨g, 0, none⟩), .int .i64 x] w (GetQ a s n x w) := by
  have HF := Lib.hid (find_any g room n a s x hn w h)
  have HT := Lib.hid h
  have n2 : (n : Int) ≤ 1000000 := by omega
  clear h hn
  go_enter Try.func16, Try.ntmps16
  go_wp2_with fail
  refine HF.out.mono ?_
  rintro e w1 ⟨hb, p, b, hp, hq, rfl⟩
  have HB := Lib.hid hb
  have HP := Lib.hid hp
  have HQ := Lib.hid hq
  clear hb hp hq
  cases b with
  | true =>
    obtain ⟨h0, h1, ⟨ao, cap, h2, h3⟩, h4⟩ := HT.out.below HB.out
    have HPN := Lib.hid (HQ.out.1 rfl)
    have hpn := HPN.out.1
    have hp2 : (p : Int) < n := by omega
    obtain ⟨bb, off, rfl, hbb, hc⟩ := h3 (by omega)
    have c2 := (hc p hpn).2
    clear h1 h4 hbb hc hpn
    obtain ⟨t, ht⟩ : ∃ t, s p = t := ⟨_, rfl⟩
    rw [ht] at c2
    go_wp2_with fail
    go_ret2
    exact ⟨HB.out, Or.inl ⟨p, HPN.out.1, HPN.out.2, by rw [ht]; rfl⟩⟩
  | false =>
    have HNO : Hid (∀ i, i < n → a i ≠ x) := HP.out.no HT.out.rises (fun h => by have := HQ.out.2 h; cases this)
    go_wp2_with fail
    go_ret2
    exact ⟨HB.out, Or.inr ⟨HNO.out, rfl⟩⟩
end Go.Proofs.Ythmbpoldjddheaa
