/- Tables: a table and the document's, side by side. -/
import Derived.Test.YthmbpoldjddheaaTabBond
namespace Go.Proofs.Ythmbpoldjddheaa
open Go.ChangeShapes Go.WideShapes Go.ChangeAt Go.RowKit
/-- A table and the document's, bound. -/
structure Pair (w : World) (B g h room n : Nat) (a : Nat → Int) (s : Nat → ByteArray) (v : Value) (b : Nat → Int) (u : Nat → ByteArray) (v2 : Value) : Prop where
  t : TAt w B g room n a s v
  q : QAt w B h room n b u v2
  bond : Bond n a s b u
  le : n ≤ room
theorem own_block_type {w : World} {B T k n g : Nat} {v : Value} {xs : List Value} (h : w.ownsRow B T k v n xs) (hv : v.ownBlock = some g) : ∃ cur, w.heap[g]? = some (.cells cur T (0, 0)) := by
  rcases h.2 with ⟨rfl, _⟩ | ⟨g', cap', cur', rfl, _, h2, _⟩
  · cases hv
  · obtain rfl : g' = g := Option.some.inj hv
    exact ⟨cur', h2⟩
theorem type_ne {w : World} {g : Nat} {c c' : Array Value} {T T' : Nat} (h : w.heap[g]? = some (.cells c T (0, 0))) (h' : w.heap[g]? = some (.cells c' T' (0, 0))) : T = T' := by
  rw [h] at h'
  injection h' with h'
  injection h'
theorem tq_ne {w : World} {B B' g h room room' n n' : Nat} {a : Nat → Int} {s : Nat → ByteArray} {v : Value} {b : Nat → Int} {u : Nat → ByteArray} {v2 : Value} (t : TAt w B g room n a s v) (q : QAt w B' h room' n' b u v2) : g ≠ h := fun e => by
  have := type_ne t.here (e ▸ q.here)
  exact absurd this (by decide)
theorem tq_v {w : World} {B B' g h room room' n n' : Nat} {a : Nat → Int} {s : Nat → ByteArray} {v : Value} {b : Nat → Int} {u : Nat → ByteArray} {v2 : Value} (t : TAt w B g room n a s v) (q : QAt w B' h room' n' b u v2) : v.ownBlock ≠ some h := fun e => by
  obtain ⟨c, hc⟩ := own_block_type t.rows e
  have := type_ne hc q.here
  exact absurd this (by decide)
theorem tq_v2 {w : World} {B B' g h room room' n n' : Nat} {a : Nat → Int} {s : Nat → ByteArray} {v : Value} {b : Nat → Int} {u : Nat → ByteArray} {v2 : Value} (t : TAt w B g room n a s v) (q : QAt w B' h room' n' b u v2) : v2.ownBlock ≠ some g := fun e => by
  obtain ⟨c, hc⟩ := own_block_type q.rows e
  have := type_ne hc t.here
  exact absurd this (by decide)
theorem tq_vv {w : World} {B B' g h room room' n n' k : Nat} {a : Nat → Int} {s : Nat → ByteArray} {v : Value} {b : Nat → Int} {u : Nat → ByteArray} {v2 : Value} (t : TAt w B g room n a s v) (q : QAt w B' h room' n' b u v2) (h1 : v.ownBlock = some k) : v2.ownBlock ≠ some k := fun e => by
  obtain ⟨c, hc⟩ := own_block_type t.rows h1
  obtain ⟨c', hc'⟩ := own_block_type q.rows e
  have := type_ne hc hc'
  exact absurd this (by decide)
/-- What the table's calls write leaves the document's. -/
theorem q_kept {w w' : World} {B g h room n : Nat} {a : Nat → Int} {s : Nat → ByteArray} {v : Value} {b : Nat → Int} {u : Nat → ByteArray} {v2 : Value} (t : TAt w B g room n a s v) (q : QAt w B h room n b u v2) (k : Kept (fun k => k = g ∨ v.ownBlock = some k) w w') : QAt w' B h room n b u v2 :=
  q.kept k (fun e => by
    rcases e with e | e
    · exact tq_ne t q e.symm
    · exact tq_v t q e) (fun c hc e => by
    rcases e with e | e
    · exact tq_v2 t q (e ▸ hc)
    · exact tq_vv t q e hc)
/-- What the document's calls write leaves the table. -/
theorem t_kept {w w' : World} {B g h room n room' n' : Nat} {a : Nat → Int} {s : Nat → ByteArray} {v : Value} {b : Nat → Int} {u : Nat → ByteArray} {v2 : Value} (t : TAt w B g room' n' a s v) (q : QAt w B h room n b u v2) (k : Kept (fun k => k = h ∨ v2.ownBlock = some k) w w') : TAt w' B g room' n' a s v :=
  t.kept k (fun e => by
    rcases e with e | e
    · exact tq_ne t q e
    · exact tq_v2 t q e) (fun c hc e => by
    rcases e with e | e
    · exact tq_v t q (e ▸ hc)
    · exact tq_vv t q hc e)
theorem t_below {w w' : World} {B g room n : Nat} {a : Nat → Int} {s : Nat → ByteArray} {v : Value} (t : TAt w B g room n a s v) (k : Kept (fun k => k = g ∨ v.ownBlock = some k) w w') (hB : B ≤ w.heap.size) : Below B w w' :=
  k.below hB fun c hc e => by
    rcases e with e | e
    · have := t.lo; omega
    · have := (World.ownsRow.lt t.rows c e).1; omega
theorem q_below {w w' : World} {B g room n : Nat} {a : Nat → Int} {s : Nat → ByteArray} {v : Value} (t : QAt w B g room n a s v) (k : Kept (fun k => k = g ∨ v.ownBlock = some k) w w') (hB : B ≤ w.heap.size) : Below B w w' :=
  k.below hB fun c hc e => by
    rcases e with e | e
    · have := t.lo; omega
    · have := (World.ownsRow.lt t.rows c e).1; omega
theorem TAt.under {w w' : World} {B g room n : Nat} {a : Nat → Int} {s : Nat → ByteArray} {v : Value} (h : TAt w B g room n a s v) (hb : Below w.heap.size w w') : TAt w' B g room n a s v := h.kept (S := fun _ => False) (Kept.of_below hb) (fun h => h) (fun _ _ h => h)
theorem QAt.under {w w' : World} {B g room n : Nat} {a : Nat → Int} {s : Nat → ByteArray} {v : Value} (h : QAt w B g room n a s v) (hb : Below w.heap.size w w') : QAt w' B g room n a s v := h.kept (S := fun _ => False) (Kept.of_below hb) (fun h => h) (fun _ _ h => h)
theorem Pair.under {w w' : World} {B g h room n : Nat} {a : Nat → Int} {s : Nat → ByteArray} {v : Value} {b : Nat → Int} {u : Nat → ByteArray} {v2 : Value} (p : Pair w B g h room n a s v b u v2) (hb : Below w.heap.size w w') : Pair w' B g h room n a s v b u v2 := ⟨p.t.under hb, p.q.under hb, p.bond, p.le⟩
theorem Bond.none {n : Nat} {a : Nat → Int} {s : Nat → ByteArray} {b : Nat → Int} {u : Nat → ByteArray} (h : Bond n a s b u) {x : Int} : (∀ i, i < n → a i ≠ x) ↔ (∀ i, i < n → b i ≠ x) :=
  ⟨fun hn i hi e => by
    obtain ⟨j, hj, e1, _⟩ := h.back i hi
    exact hn j hj (by rw [← e1, e]), fun hn i hi e => by
    obtain ⟨j, hj, e1, _⟩ := h.fwd i hi
    exact hn j hj (by rw [← e1, e])⟩
/-- A row is put. -/
theorem Bond.put {n : Nat} {a : Nat → Int} {s : Nat → ByteArray} {b : Nat → Int} {u : Nat → ByteArray} (h : Bond n a s b u) {p : Nat} {x : Int} {t : ByteArray} (hp : Place a n x p) (hno : ∀ i, i < n → a i ≠ x) :
    Bond (n + 1) (insA a p x) (insS s p t) (fun i => if i = n then x else b i) (fun i => if i = n then t else u i) := by
  have hnb := h.none.1 hno
  have hple := hp.le
  refine ⟨h.rises.ins hp hno, fun i j hij hj => ?_, fun i hi => ?_, fun j hj => ?_⟩
  · show (if i = n then x else b i) ≠ (if j = n then x else b j)
    rw [if_neg (by omega)]
    by_cases e : j = n
    · rw [if_pos e]; exact hnb i (by omega)
    · rw [if_neg e]; exact h.dist i j hij (by omega)
  · by_cases e : i = n
    · refine ⟨p, by omega, ?_, ?_⟩
      · simp [e, insA]
      · simp [e, insS]
    · obtain ⟨j, hj, e1, e2⟩ := h.back i (by omega)
      by_cases hjp : j < p
      · exact ⟨j, by omega, by simp [e, insA, hjp, e1], by simp [e, insS, hjp, e2]⟩
      · exact ⟨j + 1, by omega, by simp [e, insA, show ¬ j + 1 < p by omega, show ¬ j + 1 = p by omega, e1], by simp [e, insS, show ¬ j + 1 < p by omega, show ¬ j + 1 = p by omega, e2]⟩
  · by_cases hjp : j < p
    · obtain ⟨i, hi, e1, e2⟩ := h.fwd j (by omega)
      exact ⟨i, by omega, by simp [insA, hjp, show ¬ i = n by omega, e1], by simp [insS, hjp, show ¬ i = n by omega, e2]⟩
    · by_cases hjp2 : j = p
      · exact ⟨n, by omega, by simp [insA, hjp2], by simp [insS, hjp2]⟩
      · obtain ⟨i, hi, e1, e2⟩ := h.fwd (j - 1) (by omega)
        exact ⟨i, by omega, by simp [insA, hjp, hjp2, show ¬ i = n by omega, e1], by simp [insS, hjp, hjp2, show ¬ i = n by omega, e2]⟩
/-- A row's text is set. -/
theorem Bond.set {n : Nat} {a : Nat → Int} {s : Nat → ByteArray} {b : Nat → Int} {u : Nat → ByteArray} (h : Bond n a s b u) {p q : Nat} {x : Int} {t : ByteArray} (hp : p < n) (hq : q < n) (ep : a p = x) (eq : b q = x) :
    Bond n a (fun i => if i = p then t else s i) b (fun i => if i = q then t else u i) := by
  have dinj : ∀ i j, i < n → j < n → b i = b j → i = j := fun i j hi hj e => by
    rcases Nat.lt_trichotomy i j with l | l | l
    · exact absurd e (h.dist i j l hj)
    · exact l
    · exact absurd e.symm (h.dist j i l hi)
  refine ⟨h.rises, h.dist, fun i hi => ?_, fun j hj => ?_⟩
  · by_cases e : i = q
    · exact ⟨p, hp, by rw [e, eq, ep], by simp [e]⟩
    · obtain ⟨j, hj, e1, e2⟩ := h.back i hi
      have hjp : j ≠ p := fun e3 => e (dinj i q hi hq (by rw [e1, e3, ep, eq]))
      exact ⟨j, hj, e1, by simp [e, hjp, e2]⟩
  · by_cases e : j = p
    · exact ⟨q, hq, by rw [e, ep, eq], by simp [e]⟩
    · obtain ⟨i, hi, e1, e2⟩ := h.fwd j hj
      have hiq : i ≠ q := fun e3 => e (h.rises.inj hj hp (by rw [e1, e3, eq, ep]))
      exact ⟨i, hi, e1, by simp [e, hiq, e2]⟩
/-- A row is dropped. -/
theorem Bond.drop {n : Nat} {a : Nat → Int} {s : Nat → ByteArray} {b : Nat → Int} {u : Nat → ByteArray} (h : Bond n a s b u) {p q : Nat} {x : Int} (hp : p < n) (hq : q < n) (ep : a p = x) (eq : b q = x) :
    Bond (n - 1) (fun t => a (past p t)) (fun t => s (past p t)) (fun t => b (past q t)) (fun t => u (past q t)) := by
  have pl : ∀ r i, r < n → i < n - 1 → past r i < n := fun r i hr hi => by unfold past; split <;> omega
  have pn : ∀ r i, past r i ≠ r := fun r i => by unfold past; split <;> omega
  have kl : ∀ r k, r < n → k < n → k ≠ r → kept r k < n - 1 := fun r k hr hk e => by unfold kept; split <;> omega
  have dinj : ∀ i j, i < n → j < n → b i = b j → i = j := fun i j hi hj e => by
    rcases Nat.lt_trichotomy i j with l | l | l
    · exact absurd e (h.dist i j l hj)
    · exact l
    · exact absurd e.symm (h.dist j i l hi)
  refine ⟨h.rises.past p, fun i j hij hj => ?_, fun i hi => ?_, fun j hj => ?_⟩
  · exact h.dist _ _ (by unfold past; split <;> split <;> omega) (pl q j hq hj)
  · obtain ⟨j, hj, e1, e2⟩ := h.back (past q i) (pl q i hq hi)
    have hjp : j ≠ p := fun e3 => pn q i (dinj _ q (pl q i hq hi) hq (by rw [e1, e3, ep, eq]))
    exact ⟨kept p j, kl p j hp hj hjp, by simp only [past_kept hjp]; exact e1, by simp only [past_kept hjp]; exact e2⟩
  · obtain ⟨i, hi, e1, e2⟩ := h.fwd (past p j) (pl p j hp hj)
    have hiq : i ≠ q := fun e3 => pn p j (h.rises.inj (pl p j hp hj) hp (by rw [e1, e3, eq, ep]))
    exact ⟨kept q i, kl q i hq hi hiq, by simp only [past_kept hiq]; exact e1, by simp only [past_kept hiq]; exact e2⟩
end Go.Proofs.Ythmbpoldjddheaa
