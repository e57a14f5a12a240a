/- A config, as an argument (made by gen_cfv.py). -/
import Derived.Test.YthmbpoldjddheaaVOwn
import Derived.Test.YthmbpoldjddheaaCfChecks
import Derived.Deep.Slices
import Derived.Deep.Fields
import Derived.ChangeSame
namespace Go.Proofs.Ythmbpoldjddheaa
open Go.ChangeShapes Go.WideShapes Go.ChangeAt Go.WideElems Go.RowKit Go.Joins Go.Deep
theorem len_2 {α : Type} : ∀ {l : List α}, l.length = 2 → ∃ a b, l = [a, b]
  | [a, b], _ => ⟨a, b, rfl⟩
  | [], h => by simp at h
  | [_], h => by simp at h
  | _ :: _ :: _ :: _, h => by simp at h
theorem len_4 {α : Type} : ∀ {l : List α}, l.length = 4 → ∃ a b c d, l = [a, b, c, d]
  | [a, b, c, d], _ => ⟨a, b, c, d, rfl⟩
  | [], h => by simp at h
  | [_], h => by simp at h
  | [_, _], h => by simp at h
  | [_, _, _], h => by simp at h
  | _ :: _ :: _ :: _ :: _ :: _, h => by simp at h
theorem len_8 {α : Type} : ∀ {l : List α}, l.length = 8 → ∃ a b c d e f g h, l = [a, b, c, d, e, f, g, h]
  | [a, b, c, d, e, f, g, h], _ => ⟨a, b, c, d, e, f, g, h, rfl⟩
  | [], h => by simp at h
  | [_], h => by simp at h
  | [_, _], h => by simp at h
  | [_, _, _], h => by simp at h
  | [_, _, _, _], h => by simp at h
  | [_, _, _, _, _], h => by simp at h
  | [_, _, _, _, _, _], h => by simp at h
  | [_, _, _, _, _, _, _], h => by simp at h
  | _ :: _ :: _ :: _ :: _ :: _ :: _ :: _ :: _ :: _, h => by simp at h
theorem vMemCells : Try.prog.cellsOf 77 = 2 := by kernel_rfl
theorem vMem_of_trod {H : Type} {enc : TypeId × Value → H} {W : World} {n : Nat} {cs : List Value} {x : DataW H × List MemPlace} (h : DataW.trod enc Try.prog W 0 (fun _ => true) true n 63 cs = some x) :
    ∃ (ao : Option Addr) (len cap : Nat) (a b : Nat → Int), cs = [.slice ao len cap] ∧ len ≤ 9223372036854775807 ∧ Two W ao len a b := by
  rcases open_slice Try.underlying63 h with ⟨hcs, hx⟩ | ⟨ad, len, cap, m, nn, D, Pl, hcs, _, hl, hm, hmm, hx, hi⟩
  · exact ⟨none, 0, 0, fun _ => 0, fun _ => 0, hcs, by omega, fun h => absurd h (Nat.lt_irrefl 0)⟩
  · simp only [if_true] at hmm
    unfold maxLen at hm
    have hV : ∀ i, ∃ (p q : Int), i < m → (W.cell? (ad.add (i * 2)) = some (.int .i64 p) ∧ W.cell? (ad.add (i * 2 + 1)) = some (.int .i64 q)) := fun i => by
      by_cases him : i < m
      · obtain ⟨cs', hc, ht'⟩ := hi i him
        rw [vMemCells] at hc
        obtain ⟨ys, n', hn', hy, hlen, hyl, hf⟩ := DataW.trod_struct Try.underlying77 ht'
        obtain ⟨_, hcl, hat⟩ := World.cells?_some hc
        have h0 := hf 0 _ rfl
        have h1 := hf 1 _ rfl
        have a0 := hat 0 (by decide)
        have a1 := hat 1 (by decide)
        obtain ⟨p, q, rfl⟩ := len_2 hcl
        have hyl' : ys.length = 2 := hyl
        obtain ⟨y0, y1, rfl⟩ := len_2 hyl'
        have k0 : Try.prog.cellsOf 2 = 1 := by kernel_rfl
        change DataW.trod enc Try.prog W 0 (fun _ => true) true n' 2 (List.take (Try.prog.cellsOf 2) [p, q]) = some y0 at h0
        change DataW.trod enc Try.prog W 0 (fun _ => true) true n' 2 (List.take (Try.prog.cellsOf 2) [q]) = some y1 at h1
        rw [k0] at h0 h1
        obtain ⟨p', e0, _, _⟩ := DataW.trod_int (k := .i64) (by kernel_rfl) h0
        obtain ⟨q', e1, _, _⟩ := DataW.trod_int (k := .i64) (by kernel_rfl) h1
        simp only [List.take_succ_cons, List.take_zero, List.cons.injEq, and_true] at e0 e1
        subst e0 e1
        refine ⟨p', q', fun _ => ⟨?_, ?_⟩⟩
        · simpa [Go.Deep.add_add] using a0
        · simpa [Go.Deep.add_add] using a1
      · exact ⟨0, 0, fun h => absurd h him⟩
    obtain ⟨a, ha⟩ := Classical.axiomOfChoice hV
    obtain ⟨b, hb⟩ := Classical.axiomOfChoice ha
    refine ⟨some ad, len, cap, a, b, hcs, by omega, fun hp => ?_⟩
    obtain ⟨b_, off, spot⟩ := ad
    have hspot : spot = none := by simpa [Addr.add] using World.cell?_spot (hb 0 (by omega)).1
    subst hspot
    refine ⟨b_, off, rfl, World.block_lt_of_cell? W ⟨b_, off + 0 * 2, none⟩ (by rw [← add_plain]; exact (hb 0 (by omega)).1), fun i hil => ?_⟩
    obtain ⟨c0, c1⟩ := hb i (by omega)
    rw [add_plain] at c0 c1
    exact ⟨c0, by rw [Nat.add_assoc]; exact c1⟩
theorem vSecCells : Try.prog.cellsOf 81 = 2 := by kernel_rfl
theorem vSec_of_trod {H : Type} {enc : TypeId × Value → H} {W : World} {n : Nat} {cs : List Value} {x : DataW H × List MemPlace} (h : DataW.trod enc Try.prog W 0 (fun _ => true) true n 64 cs = some x) :
    ∃ (ao : Option Addr) (len cap : Nat) (a b : Nat → Int), cs = [.slice ao len cap] ∧ len ≤ 9223372036854775807 ∧ Two W ao len a b := by
  rcases open_slice Try.underlying64 h with ⟨hcs, hx⟩ | ⟨ad, len, cap, m, nn, D, Pl, hcs, _, hl, hm, hmm, hx, hi⟩
  · exact ⟨none, 0, 0, fun _ => 0, fun _ => 0, hcs, by omega, fun h => absurd h (Nat.lt_irrefl 0)⟩
  · simp only [if_true] at hmm
    unfold maxLen at hm
    have hV : ∀ i, ∃ (p q : Int), i < m → (W.cell? (ad.add (i * 2)) = some (.int .i64 p) ∧ W.cell? (ad.add (i * 2 + 1)) = some (.int .i64 q)) := fun i => by
      by_cases him : i < m
      · obtain ⟨cs', hc, ht'⟩ := hi i him
        rw [vSecCells] at hc
        obtain ⟨ys, n', hn', hy, hlen, hyl, hf⟩ := DataW.trod_struct Try.underlying81 ht'
        obtain ⟨_, hcl, hat⟩ := World.cells?_some hc
        have h0 := hf 0 _ rfl
        have h1 := hf 1 _ rfl
        have a0 := hat 0 (by decide)
        have a1 := hat 1 (by decide)
        obtain ⟨p, q, rfl⟩ := len_2 hcl
        have hyl' : ys.length = 2 := hyl
        obtain ⟨y0, y1, rfl⟩ := len_2 hyl'
        have k0 : Try.prog.cellsOf 2 = 1 := by kernel_rfl
        change DataW.trod enc Try.prog W 0 (fun _ => true) true n' 2 (List.take (Try.prog.cellsOf 2) [p, q]) = some y0 at h0
        change DataW.trod enc Try.prog W 0 (fun _ => true) true n' 2 (List.take (Try.prog.cellsOf 2) [q]) = some y1 at h1
        rw [k0] at h0 h1
        obtain ⟨p', e0, _, _⟩ := DataW.trod_int (k := .i64) (by kernel_rfl) h0
        obtain ⟨q', e1, _, _⟩ := DataW.trod_int (k := .i64) (by kernel_rfl) h1
        simp only [List.take_succ_cons, List.take_zero, List.cons.injEq, and_true] at e0 e1
        subst e0 e1
        refine ⟨p', q', fun _ => ⟨?_, ?_⟩⟩
        · simpa [Go.Deep.add_add] using a0
        · simpa [Go.Deep.add_add] using a1
      · exact ⟨0, 0, fun h => absurd h him⟩
    obtain ⟨a, ha⟩ := Classical.axiomOfChoice hV
    obtain ⟨b, hb⟩ := Classical.axiomOfChoice ha
    refine ⟨some ad, len, cap, a, b, hcs, by omega, fun hp => ?_⟩
    obtain ⟨b_, off, spot⟩ := ad
    have hspot : spot = none := by simpa [Addr.add] using World.cell?_spot (hb 0 (by omega)).1
    subst hspot
    refine ⟨b_, off, rfl, World.block_lt_of_cell? W ⟨b_, off + 0 * 2, none⟩ (by rw [← add_plain]; exact (hb 0 (by omega)).1), fun i hil => ?_⟩
    obtain ⟨c0, c1⟩ := hb i (by omega)
    rw [add_plain] at c0 c1
    exact ⟨c0, by rw [Nat.add_assoc]; exact c1⟩
theorem vCycCells : Try.prog.cellsOf 74 = 4 := by kernel_rfl
theorem vCyc_of_trod {H : Type} {enc : TypeId × Value → H} {W : World} {n : Nat} {cs : List Value} {x : DataW H × List MemPlace} (h : DataW.trod enc Try.prog W 0 (fun _ => true) true n 65 cs = some x) :
    ∃ (ao : Option Addr) (len cap : Nat) (a b c d : Nat → Int), cs = [.slice ao len cap] ∧ len ≤ 9223372036854775807 ∧ Four W ao len a b c d := by
  rcases open_slice Try.underlying65 h with ⟨hcs, hx⟩ | ⟨ad, len, cap, m, nn, D, Pl, hcs, _, hl, hm, hmm, hx, hi⟩
  · exact ⟨none, 0, 0, fun _ => 0, fun _ => 0, fun _ => 0, fun _ => 0, hcs, by omega, fun h => absurd h (Nat.lt_irrefl 0)⟩
  · simp only [if_true] at hmm
    unfold maxLen at hm
    have hV : ∀ i, ∃ (p q r s : Int), i < m → (W.cell? (ad.add (i * 4)) = some (.int .i64 p) ∧ W.cell? (ad.add (i * 4 + 1)) = some (.int .i64 q) ∧ W.cell? (ad.add (i * 4 + 2)) = some (.int .i64 r) ∧ W.cell? (ad.add (i * 4 + 3)) = some (.int .i64 s)) := fun i => by
      by_cases him : i < m
      · obtain ⟨cs', hc, ht'⟩ := hi i him
        rw [vCycCells] at hc
        obtain ⟨ys, n', hn', hy, hlen, hyl, hf⟩ := DataW.trod_struct Try.underlying74 ht'
        obtain ⟨_, hcl, hat⟩ := World.cells?_some hc
        have h0 := hf 0 _ rfl
        have h1 := hf 1 _ rfl
        have h2 := hf 2 _ rfl
        have h3 := hf 3 _ rfl
        have a0 := hat 0 (by decide)
        have a1 := hat 1 (by decide)
        have a2 := hat 2 (by decide)
        have a3 := hat 3 (by decide)
        obtain ⟨p, q, r, s, rfl⟩ := len_4 hcl
        have hyl' : ys.length = 4 := hyl
        obtain ⟨y0, y1, y2, y3, rfl⟩ := len_4 hyl'
        have k0 : Try.prog.cellsOf 3 = 1 := by kernel_rfl
        change DataW.trod enc Try.prog W 0 (fun _ => true) true n' 3 (List.take (Try.prog.cellsOf 3) [p, q, r, s]) = some y0 at h0
        change DataW.trod enc Try.prog W 0 (fun _ => true) true n' 3 (List.take (Try.prog.cellsOf 3) [q, r, s]) = some y1 at h1
        change DataW.trod enc Try.prog W 0 (fun _ => true) true n' 3 (List.take (Try.prog.cellsOf 3) [r, s]) = some y2 at h2
        change DataW.trod enc Try.prog W 0 (fun _ => true) true n' 3 (List.take (Try.prog.cellsOf 3) [s]) = some y3 at h3
        rw [k0] at h0 h1 h2 h3
        obtain ⟨p', e0, _, _⟩ := DataW.trod_int (k := .i64) (by kernel_rfl) h0
        obtain ⟨q', e1, _, _⟩ := DataW.trod_int (k := .i64) (by kernel_rfl) h1
        obtain ⟨r', e2, _, _⟩ := DataW.trod_int (k := .i64) (by kernel_rfl) h2
        obtain ⟨s', e3, _, _⟩ := DataW.trod_int (k := .i64) (by kernel_rfl) h3
        simp only [List.take_succ_cons, List.take_zero, List.cons.injEq, and_true] at e0 e1 e2 e3
        subst e0 e1 e2 e3
        refine ⟨p', q', r', s', fun _ => ⟨?_, ?_, ?_, ?_⟩⟩
        · simpa [Go.Deep.add_add] using a0
        · simpa [Go.Deep.add_add] using a1
        · simpa [Go.Deep.add_add] using a2
        · simpa [Go.Deep.add_add] using a3
      · exact ⟨0, 0, 0, 0, fun h => absurd h him⟩
    obtain ⟨a, ha⟩ := Classical.axiomOfChoice hV
    obtain ⟨b, hb⟩ := Classical.axiomOfChoice ha
    obtain ⟨c, hc⟩ := Classical.axiomOfChoice hb
    obtain ⟨d, hd⟩ := Classical.axiomOfChoice hc
    refine ⟨some ad, len, cap, a, b, c, d, hcs, by omega, fun hp => ?_⟩
    obtain ⟨b_, off, spot⟩ := ad
    have hspot : spot = none := by simpa [Addr.add] using World.cell?_spot (hd 0 (by omega)).1
    subst hspot
    refine ⟨b_, off, rfl, World.block_lt_of_cell? W ⟨b_, off + 0 * 4, none⟩ (by rw [← add_plain]; exact (hd 0 (by omega)).1), fun i hil => ?_⟩
    obtain ⟨c0, c1, c2, c3⟩ := hd i (by omega)
    rw [add_plain] at c0 c1 c2 c3
    exact ⟨c0, by rw [Nat.add_assoc]; exact c1, by rw [Nat.add_assoc]; exact c2, by rw [Nat.add_assoc]; exact c3⟩
theorem confCells : Try.prog.cellsOf 67 = 8 := by kernel_rfl
theorem conf_view {H : Type} {enc : TypeId × Value → H} {W : World} {v : Value} {x : DataW H} {pl : List MemPlace} (hs : ∃ cs, v = .agg cs ∧ cs.size = Try.prog.cellsOf 67) (h : DataW.Trod enc Try.prog W 0 (fun _ => true) true 67 v x pl) :
    ∃ (c : CF), v = .agg #[.slice c.am c.nm c.cm, .slice c.au c.ns c.cs, .slice c.ac c.nc c.cc, .int .i64 c.li, .int .i64 c.ca, .int .i64 c.le, .int .i64 c.tr, .int .i64 c.bi] ∧ (c.nm ≤ 9223372036854775807 ∧ c.ns ≤ 9223372036854775807 ∧ c.nc ≤ 9223372036854775807) ∧ (Two W c.am c.nm c.m1 c.m2 ∧ Two W c.au c.ns c.s1 c.s2 ∧ Four W c.ac c.nc c.p c.q c.r c.s) := by
  obtain ⟨⟨cs⟩, rfl, hsz⟩ := hs
  rw [confCells] at hsz
  obtain ⟨fuel, hf⟩ := h
  obtain ⟨a, b, c, d, e, f, g, h, rfl⟩ := len_8 (by simpa using hsz)
  change DataW.trod enc Try.prog W 0 (fun _ => true) true fuel 67 [a, b, c, d, e, f, g, h] = some (x, pl) at hf
  obtain ⟨ys, n', hn', hy, hlen, hyl, hfi⟩ := DataW.trod_struct Try.underlying67 hf
  have h0 := hfi 0 _ rfl
  have h1 := hfi 1 _ rfl
  have h2 := hfi 2 _ rfl
  have h3 := hfi 3 _ rfl
  have h4 := hfi 4 _ rfl
  have h5 := hfi 5 _ rfl
  have h6 := hfi 6 _ rfl
  have h7 := hfi 7 _ rfl
  have hyl' : ys.length = 8 := hyl
  obtain ⟨y0, y1, y2, y3, y4, y5, y6, y7, rfl⟩ := len_8 hyl'
  have k0 : Try.prog.cellsOf 63 = 1 := by kernel_rfl
  change DataW.trod enc Try.prog W 0 (fun _ => true) true n' 63 (List.take (Try.prog.cellsOf 63) [a, b, c, d, e, f, g, h]) = some y0 at h0
  rw [k0] at h0
  have k1 : Try.prog.cellsOf 64 = 1 := by kernel_rfl
  change DataW.trod enc Try.prog W 0 (fun _ => true) true n' 64 (List.take (Try.prog.cellsOf 64) [b, c, d, e, f, g, h]) = some y1 at h1
  rw [k1] at h1
  have k2 : Try.prog.cellsOf 65 = 1 := by kernel_rfl
  change DataW.trod enc Try.prog W 0 (fun _ => true) true n' 65 (List.take (Try.prog.cellsOf 65) [c, d, e, f, g, h]) = some y2 at h2
  rw [k2] at h2
  have k3 : Try.prog.cellsOf 2 = 1 := by kernel_rfl
  change DataW.trod enc Try.prog W 0 (fun _ => true) true n' 2 (List.take (Try.prog.cellsOf 2) [d, e, f, g, h]) = some y3 at h3
  rw [k3] at h3
  have k4 : Try.prog.cellsOf 2 = 1 := by kernel_rfl
  change DataW.trod enc Try.prog W 0 (fun _ => true) true n' 2 (List.take (Try.prog.cellsOf 2) [e, f, g, h]) = some y4 at h4
  rw [k4] at h4
  have k5 : Try.prog.cellsOf 3 = 1 := by kernel_rfl
  change DataW.trod enc Try.prog W 0 (fun _ => true) true n' 3 (List.take (Try.prog.cellsOf 3) [f, g, h]) = some y5 at h5
  rw [k5] at h5
  have k6 : Try.prog.cellsOf 3 = 1 := by kernel_rfl
  change DataW.trod enc Try.prog W 0 (fun _ => true) true n' 3 (List.take (Try.prog.cellsOf 3) [g, h]) = some y6 at h6
  rw [k6] at h6
  have k7 : Try.prog.cellsOf 3 = 1 := by kernel_rfl
  change DataW.trod enc Try.prog W 0 (fun _ => true) true n' 3 (List.take (Try.prog.cellsOf 3) [h]) = some y7 at h7
  rw [k7] at h7
  obtain ⟨am, nm, cm, m1, m2, e0, l0, t0⟩ := vMem_of_trod h0
  obtain ⟨au, ns, cs, s1, s2, e1, l1, t1⟩ := vSec_of_trod h1
  obtain ⟨ac, nc, cc, p, q, r, s, e2, l2, t2⟩ := vCyc_of_trod h2
  obtain ⟨li, e3, _, _⟩ := DataW.trod_int (k := .i64) (by kernel_rfl) h3
  obtain ⟨ca, e4, _, _⟩ := DataW.trod_int (k := .i64) (by kernel_rfl) h4
  obtain ⟨le, e5, _, _⟩ := DataW.trod_int (k := .i64) (by kernel_rfl) h5
  obtain ⟨tr, e6, _, _⟩ := DataW.trod_int (k := .i64) (by kernel_rfl) h6
  obtain ⟨bi, e7, _, _⟩ := DataW.trod_int (k := .i64) (by kernel_rfl) h7
  simp only [List.take_succ_cons, List.take_zero, List.cons.injEq, and_true] at e0 e1 e2 e3 e4 e5 e6 e7
  subst e0 e1 e2 e3 e4 e5 e6 e7
  exact ⟨⟨am, au, ac, nm, cm, ns, cs, nc, cc, li, ca, le, tr, bi, m1, m2, s1, s2, p, q, r, s⟩, rfl, ⟨l0, l1, l2⟩, t0, t1, t2⟩
end Go.Proofs.Ythmbpoldjddheaa
