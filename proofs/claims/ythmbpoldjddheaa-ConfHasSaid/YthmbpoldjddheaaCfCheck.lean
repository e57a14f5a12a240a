/- Check, Last; plain configs may be. -/
import Derived.Test.YthmbpoldjddheaaCfWrong
import Derived.Test.YthmbpoldjddheaaCfGrow
namespace Go.Proofs.Ythmbpoldjddheaa
open Go.ChangeShapes Go.WideShapes Go.ChangeAt Go.RowKit
theorem check10_ok (c : CF) (w : World) (h : c.At w) (hw : c.word = ⟨#[]⟩) : Calls Try.prog 40 #[.agg #[.slice c.am c.nm c.cm, .slice c.au c.ns c.cs, .slice c.ac c.nc c.cc, .int .i64 c.li, .int .i64 c.ca, .int .i64 c.le, .int .i64 c.tr, .int .i64 c.bi]] w (Ret (.int .i64 0) w) := by
  have HW := Lib.hid (wrong_any c (w.alloc (.cells #[.slice c.am c.nm c.cm, .slice c.au c.ns c.cs, .slice c.ac c.nc c.cc, .int .i64 c.li, .int .i64 c.ca, .int .i64 c.le, .int .i64 c.tr, .int .i64 c.bi] 67)) (h.below ((Below.refl _ _).alloc (Nat.le_refl _) _)))
  rw [hw] at HW
  clear h hw
  go_enter Try.func40, Try.ntmps40
  go_wp2_with fail
  refine HW.out.mono ?_
  rintro e w1 ⟨rfl, h1⟩
  have HB := Lib.hid (belowB h1)
  clear h1 HW
  go_wp2_with fail
  go_ret
  exact ⟨rfl, HB.out⟩
theorem last_any (c : CF) (w : World) (h : c.At w) (hn : 0 < c.nc) : Calls Try.prog 41 #[.agg #[.slice c.am c.nm c.cm, .slice c.au c.ns c.cs, .slice c.ac c.nc c.cc, .int .i64 c.li, .int .i64 c.ca, .int .i64 c.le, .int .i64 c.tr, .int .i64 c.bi]] w (Ret (.int .i64 (c.s (c.nc - 1))) w) := by
  obtain ⟨g, off, e1, hg, hc⟩ := h.y hn
  have h3 := (hc (c.nc - 1) (by omega)).2.2.2
  have hb := ((Below.refl w.heap.size w).alloc (Nat.le_refl _) (.cells #[.slice c.am c.nm c.cm, .slice c.au c.ns c.cs, .slice c.ac c.nc c.cc, .int .i64 c.li, .int .i64 c.ca, .int .i64 c.le, .int .i64 c.tr, .int .i64 c.bi] 67))
  have h4 := (hb.cell (by exact hg)).trans h3
  rw [e1] at h4 ⊢
  obtain ⟨k, hk⟩ : ∃ k, c.nc - 1 = k := ⟨_, rfl⟩
  rw [hk] at h4 ⊢
  have g0 : ((c.nc : Int) == 0) = false := by rw [beq_eq_false_iff_ne]; omega
  have gn : (c.nc == 0) = false := by rw [beq_eq_false_iff_ne]; omega
  have gz : ¬ c.nc = 0 := by omega
  have g1 : (c.nc : Int) - 1 = (k : Int) := by omega
  have hf := h.few.2.2
  have g2 : IntKind.i64.wrap (k : Int) = (k : Int) := by unfold IntKind.wrap; simp [IntKind.signed, IntKind.bits]; omega
  have g3 : wrap64 (k : Int) = (k : Int) := Go.IntWalk.wrap64_in _ (by omega)
  have g4 : (k : Int) < (c.nc : Int) := by omega
  have g5 : (0 : Int) ≤ (k : Int) := by omega
  obtain ⟨x, hx⟩ : ∃ x, c.s k = x := ⟨_, rfl⟩
  rw [hx] at h4 ⊢
  clear hx h hn hc h3 hb e1 hk hf hg
  go_enter Try.func41, Try.ntmps41
  go_wp2_with fail
  go_ret
  exact ⟨rfl, by go_grown⟩
theorem allB_true {n : Nat} {p : Nat → Bool} (h : ∀ i, i < n → p i = true) : allB n p = true := decide_eq_true h
theorem plain_word (am au ac : Option Addr) (nm cm ns cs nc cc : Nat) (h1 : 2 ≤ nm ∧ nm ≤ 16) (h2 : 1 ≤ ns ∧ ns ≤ 8) (h3 : 1 ≤ nc ∧ nc ≤ 4) : (plainC am au ac nm cm ns cs nc cc).word = ⟨#[]⟩ := by
  have e1 : (plainC am au ac nm cm ns cs nc cc).b1 = true := by
    show (wi 2 16 (nm : Int) && allB nm (fun _ => mMay 1000 100)) = true
    rw [allB_true fun i _ => (by decide : mMay 1000 100 = true)]
    unfold wi
    simp; omega
  have e2 : (plainC am au ac nm cm ns cs nc cc).b2 = true := by
    show (wi 1 8 (ns : Int) && allB ns (fun _ => sMay 10 12)) = true
    rw [allB_true fun i _ => (by decide : sMay 10 12 = true)]
    unfold wi
    simp; omega
  have e3 : (plainC am au ac nm cm ns cs nc cc).b3 = true := by
    show (wi 1 4 (nc : Int) && allB (nc * 4) (upB (tk (fun i => 10 * (i : Int) + 4) (fun i => 10 * (i : Int) + 7) (fun i => 10 * (i : Int) + 9) (fun i => 10 * (i : Int) + 10)))) = true
    rcases (show nc = 1 ∨ nc = 2 ∨ nc = 3 ∨ nc = 4 by omega) with rfl | rfl | rfl | rfl <;> decide +kernel
  unfold CF.word
  rw [if_neg (by rw [e1]; decide), if_neg (by rw [e2]; decide), if_neg (by rw [e3]; decide), if_neg (by show ¬ wi 0 1099511627776 500 = false; decide), if_neg (by show ¬ wi 0 1099511627776 200 = false; decide), if_neg (by show ¬ wi 0 1000 1 = false; decide), if_neg (by show ¬ wi 1 64 64 = false; decide), if_neg (by show ¬ wi 1 32 32 = false; decide)]
end Go.Proofs.Ythmbpoldjddheaa
