/- ConfMay, walked (made by gen_cf9.py). -/
import Derived.Test.YthmbpoldjddheaaCfMay
import Derived.Test.YthmbpoldjddheaaCfAwake
namespace Go.Proofs.Ythmbpoldjddheaa
open Go.ChangeShapes Go.WideShapes Go.ChangeAt Go.RowKit
theorem tl_ne10 {t : ByteArray} (h : t ≠ ⟨#[]⟩) : ¬ t.toList = [] ∧ (t.toList == []) = false ∧ (decide (t.toList = [])) = false ∧ t.toList.isEmpty = false := by
  have h1 : ¬ t.toList = [] := fun e => h (by
    obtain ⟨⟨l⟩⟩ := t
    rw [ByteArray.toList_eq] at e
    cases l with
    | nil => rfl
    | cons x l => cases e)
  exact ⟨h1, by rw [beq_eq_false_iff_ne]; exact h1, decide_eq_false h1, by simpa using h1⟩
theorem check10_bad (c : CF) (w : World) (h : c.At w) (hw : c.word ≠ ⟨#[]⟩) : Calls Try.prog 40 #[.agg #[.slice c.am c.nm c.cm, .slice c.au c.ns c.cs, .slice c.ac c.nc c.cc, .int .i64 c.li, .int .i64 c.ca, .int .i64 c.le, .int .i64 c.tr, .int .i64 c.bi]] w (Ret (.int .i64 1) w) := by
  have HW := Lib.hid (wrong_any c (w.alloc (.cells #[.slice c.am c.nm c.cm, .slice c.au c.ns c.cs, .slice c.ac c.nc c.cc, .int .i64 c.li, .int .i64 c.ca, .int .i64 c.le, .int .i64 c.tr, .int .i64 c.bi] 67)) (h.below ((Below.refl _ _).alloc (Nat.le_refl _) _)))
  obtain ⟨x, hx⟩ : ∃ x, c.word = x := ⟨_, rfl⟩
  rw [hx] at HW hw
  obtain ⟨g0, g1, g2, g3⟩ := tl_ne10 hw
  clear h hw hx
  go_enter Try.func40, Try.ntmps40
  go_wp2_with fail
  refine HW.out.mono ?_
  rintro e w1 ⟨rfl, h1⟩
  have HB := Lib.hid (belowB h1)
  clear h1 HW
  go_wp2_with fail
  go_ret
  exact ⟨rfl, HB.out⟩
theorem last_all (c : CF) (w : World) (h : c.At w) : Calls Try.prog 41 #[.agg #[.slice c.am c.nm c.cm, .slice c.au c.ns c.cs, .slice c.ac c.nc c.cc, .int .i64 c.li, .int .i64 c.ca, .int .i64 c.le, .int .i64 c.tr, .int .i64 c.bi]] w (Ret (.int .i64 (clo c.s c.nc)) w) := by
  by_cases hn : c.nc = 0
  · rw [show clo c.s c.nc = 0 from if_pos hn]
    have g0 : ((c.nc : Int) == 0) = true := by rw [beq_iff_eq]; omega
    have g1 : (c.nc == 0) = true := by rw [beq_iff_eq]; exact hn
    clear h
    go_enter Try.func41, Try.ntmps41
    go_wp2_with fail
    go_ret
    exact ⟨rfl, by go_grown⟩
  · rw [show clo c.s c.nc = c.s (c.nc - 1) from if_neg hn]
    exact last_any c w h (by omega)
/-- Up to 20 members, securities and cycles? -/
def CF.small (c : CF) : Bool := decide (c.nm ≤ 20) && (decide (c.ns ≤ 20) && decide (c.nc ≤ 20))
theorem few10_any (c : CF) (hb : c.nm ≤ 9223372036854775807 ∧ c.ns ≤ 9223372036854775807 ∧ c.nc ≤ 9223372036854775807) (w : World) : Calls Try.prog 35 #[.agg #[.slice c.am c.nm c.cm, .slice c.au c.ns c.cs, .slice c.ac c.nc c.cc, .int .i64 c.li, .int .i64 c.ca, .int .i64 c.le, .int .i64 c.tr, .int .i64 c.bi]] w (Ret (.bool c.small) w) := by
  unfold CF.small
  have e1 : decide ((c.nm : Int) ≤ 20) = decide (c.nm ≤ 20) := by rw [decide_eq_decide]; omega
  have e2 : decide ((c.ns : Int) ≤ 20) = decide (c.ns ≤ 20) := by rw [decide_eq_decide]; omega
  have e3 : decide ((c.nc : Int) ≤ 20) = decide (c.nc ≤ 20) := by rw [decide_eq_decide]; omega
  rcases (show ¬ c.nm ≤ 20 ∨ c.nm ≤ 20 by omega) with h1 | h1
  · rw [decide_eq_false h1, Bool.false_and]
    rw [decide_eq_false h1] at e1
    have f1 : decide (c.nm ≤ 20) = false := decide_eq_false h1
    clear hb h1 e2 e3
    go_enter Try.func35, Try.ntmps35
    go_wp2_with fail
    go_ret
    exact ⟨rfl, by go_grown⟩
  rw [decide_eq_true h1, Bool.true_and]
  rw [decide_eq_true h1] at e1
  have f1 : decide (c.nm ≤ 20) = true := decide_eq_true h1
  rcases (show ¬ c.ns ≤ 20 ∨ c.ns ≤ 20 by omega) with h2 | h2
  · rw [decide_eq_false h2, Bool.false_and]
    rw [decide_eq_false h2] at e2
    have f2 : decide (c.ns ≤ 20) = false := decide_eq_false h2
    clear hb h1 h2 e3
    go_enter Try.func35, Try.ntmps35
    go_wp2_with fail
    go_ret
    exact ⟨rfl, by go_grown⟩
  rw [decide_eq_true h2, Bool.true_and]
  rw [decide_eq_true h2] at e2
  have f2 : decide (c.ns ≤ 20) = true := decide_eq_true h2
  obtain ⟨x, hx⟩ : ∃ x, decide (c.nc ≤ 20) = x := ⟨_, rfl⟩
  rw [hx] at e3 ⊢
  clear hb h1 h2
  cases x with
  | true =>
    go_enter Try.func35, Try.ntmps35
    go_wp2_with fail
    go_ret
    exact ⟨rfl, by go_grown⟩
  | false =>
    go_enter Try.func35, Try.ntmps35
    go_wp2_with fail
    go_ret
    exact ⟨rfl, by go_grown⟩
theorem may_few (c : CF) (hb : c.nm ≤ 9223372036854775807 ∧ c.ns ≤ 9223372036854775807 ∧ c.nc ≤ 9223372036854775807) (hs : c.small = false) (w : World) : Calls Try.prog 7 #[.agg #[.slice c.am c.nm c.cm, .slice c.au c.ns c.cs, .slice c.ac c.nc c.cc, .int .i64 c.li, .int .i64 c.ca, .int .i64 c.le, .int .i64 c.tr, .int .i64 c.bi]] w (Ret (.bool true) w) := by
  have HF := Lib.hid (fun W => few10_any c hb W)
  rw [hs] at HF
  have HA := Lib.hid awake10_any
  clear hb hs
  go_enter Try.func7, Try.ntmps7
  go_wp2_with fail
  refine (HF.out _).mono ?_
  rintro e w1 ⟨rfl, h1⟩
  have HB := Lib.hid (belowB h1)
  clear h1
  go_wp2_with fail
  refine (HA.out _).mono ?_
  rintro e w2 ⟨rfl, h2⟩
  have HB2 := Lib.hid (HB.out.trans (h2.mono HB.out.size))
  clear h2
  go_wp2_with fail
  go_ret
  exact ⟨rfl, HB2.out⟩
theorem Bo.keep {c : CF} {w wr wx : World} (h : Bo c w wr) (hb : Below wr.heap.size wr wx) : Bo c w wx := ⟨keepB h.z hb, h.cfg.below hb, h.bel.trans (hb.mono h.bel.size)⟩
end Go.Proofs.Ythmbpoldjddheaa
