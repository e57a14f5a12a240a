/- Commands, as an argument. -/
import Derived.Test.YtbpaongnehgodaaCoView
import Derived.Test.YtbpaongnehgodaaCoLaw4
namespace Go.Proofs.Ytbpaongnehgodaa
open Go.ChangeShapes Go.WideShapes Go.ChangeAt Go.WideElems Go.RowKit Go.Joins Go.Deep
theorem cms_of_trod {H : Type} {enc : TypeId × Value → H} {W : World} {n : Nat} {cs : List Value} {x : DataW H × List MemPlace} (h : DataW.trod enc Try.prog W 0 (fun _ => true) true n 34 cs = some x) :
    ∃ (ao : Option Addr) (len cap : Nat) (f : Nat → Cm), cs = [.slice ao len cap] ∧ len ≤ 9223372036854775807 ∧ (∀ i, (f i).In) ∧ CmsAt W ao len f := by
  rcases open_slice Try.underlying34 h with ⟨hcs, hx⟩ | ⟨ad, len, cap, m, nn, D, Pl, hcs, _, hl, hm, hmm, hx, hi⟩
  · exact ⟨none, 0, 0, fun _ => zeroC, hcs, by omega, fun _ => zeroC_in, fun h => absurd h (Nat.lt_irrefl 0)⟩
  · simp only [if_true] at hmm
    unfold maxLen at hm
    have hV : ∀ i, ∃ c : Cm, c.In ∧ (i < m → (W.cell? (ad.add (i * 7)) = some (.int .i64 c.k) ∧ W.cell? (ad.add (i * 7 + 1)) = some (.int .i64 c.i) ∧ W.cell? (ad.add (i * 7 + 2)) = some (.int .i64 c.m) ∧ W.cell? (ad.add (i * 7 + 3)) = some (.int .i64 c.o) ∧ W.cell? (ad.add (i * 7 + 4)) = some (.int .i64 c.s) ∧ W.cell? (ad.add (i * 7 + 5)) = some (.int .i64 c.q) ∧ W.cell? (ad.add (i * 7 + 6)) = some (.int .i64 c.p))) := fun i => by
      by_cases him : i < m
      · obtain ⟨cs', hc, ht'⟩ := hi i him
        rw [cmdCells] at hc
        obtain ⟨_, hcl, hat⟩ := World.cells?_some hc
        have a0 := hat 0 (by decide)
        have a1 := hat 1 (by decide)
        have a2 := hat 2 (by decide)
        have a3 := hat 3 (by decide)
        have a4 := hat 4 (by decide)
        have a5 := hat 5 (by decide)
        have a6 := hat 6 (by decide)
        obtain ⟨k, i', mm, o, s, q, r, e, b0, b1, b2, b3, b4, b5, b6⟩ := cmd_of_trod hcl ht'
        subst e
        refine ⟨⟨k, i', mm, o, s, q, r⟩, ⟨b0, b1, b2, b3, b4, b5, b6⟩, fun _ => ⟨?_, ?_, ?_, ?_, ?_, ?_, ?_⟩⟩
        · simpa [Go.Deep.add_add] using a0
        · simpa [Go.Deep.add_add] using a1
        · simpa [Go.Deep.add_add] using a2
        · simpa [Go.Deep.add_add] using a3
        · simpa [Go.Deep.add_add] using a4
        · simpa [Go.Deep.add_add] using a5
        · simpa [Go.Deep.add_add] using a6
      · exact ⟨zeroC, zeroC_in, fun h => absurd h him⟩
    obtain ⟨f, hf⟩ := Classical.axiomOfChoice hV
    refine ⟨some ad, len, cap, f, hcs, by omega, fun i => (hf i).1, fun hp => ?_⟩
    obtain ⟨b, off, spot⟩ := ad
    have hspot : spot = none := by simpa [Addr.add] using World.cell?_spot ((hf 0).2 (by omega)).1
    subst hspot
    refine ⟨b, off, rfl, World.block_lt_of_cell? W ⟨b, off + 0 * 7, none⟩ (by rw [← add_plain]; exact ((hf 0).2 (by omega)).1), fun i hil => ?_⟩
    obtain ⟨c0, c1, c2, c3, c4, c5, c6⟩ := (hf i).2 (by omega)
    rw [add_plain] at c0 c1 c2 c3 c4 c5 c6
    exact ⟨c0, by rw [Nat.add_assoc]; exact c1, by rw [Nat.add_assoc]; exact c2, by rw [Nat.add_assoc]; exact c3, by rw [Nat.add_assoc]; exact c4, by rw [Nat.add_assoc]; exact c5, by rw [Nat.add_assoc]; exact c6⟩
/-- An argument that is a slice of commands. -/
theorem cms_view {H : Type} {enc : TypeId × Value → H} {W : World} {v : Value} {d : DataW H} {p : List MemPlace} (hs : ∃ ao len cap, v = .slice ao len cap) (h : DataW.Trod enc Try.prog W 0 (fun _ => true) true 34 v d p) :
    ∃ (ao : Option Addr) (len cap : Nat) (f : Nat → Cm), v = .slice ao len cap ∧ len ≤ 9223372036854775807 ∧ (∀ i, (f i).In) ∧ CmsAt W ao len f := by
  obtain ⟨ao, len, cap, rfl⟩ := hs
  obtain ⟨fuel, hf⟩ := h
  obtain ⟨ao', len', cap', f, hcs, h1, h2, h3⟩ := cms_of_trod hf
  simp [Value.cells] at hcs
  obtain ⟨rfl, rfl, rfl⟩ := hcs
  exact ⟨_, _, _, f, rfl, h1, h2, h3⟩
end Go.Proofs.Ytbpaongnehgodaa
