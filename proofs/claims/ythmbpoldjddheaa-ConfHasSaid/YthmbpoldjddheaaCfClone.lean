/- slices.Clone of rows of two and of four numbers (made by gen_cfh.py). -/
import Derived.Test.YthmbpoldjddheaaCfPlain
namespace Go.Proofs.Ythmbpoldjddheaa
open Go.ChangeShapes Go.WideShapes Go.ChangeAt Go.RowKit
/-- n rows of numbers, as values. -/
def twL (a b : Nat → Int) : Nat → List Value
  | 0 => []
  | n + 1 => twL a b n ++ [.int .i64 (a n), .int .i64 (b n)]
theorem twL_length (a b : Nat → Int) : ∀ n, (twL a b n).length = n * 2
  | 0 => rfl
  | n + 1 => by rw [twL, List.length_append, twL_length a b n]; simp; omega
theorem twL_at (a b : Nat → Int) : ∀ n i, i < n → (twL a b n)[i * 2]? = some (.int .i64 (a i)) ∧ (twL a b n)[i * 2 + 1]? = some (.int .i64 (b i))
  | 0, i, h => by omega
  | n + 1, i, h => by
    rw [twL]
    have hl := twL_length a b n
    by_cases hi : i < n
    · obtain ⟨h0, h1⟩ := twL_at a b n i hi
      rw [List.getElem?_append_left (by omega), List.getElem?_append_left (by omega)]
      exact ⟨h0, h1⟩
    · obtain rfl : i = n := by omega
      rw [List.getElem?_append_right (by omega), List.getElem?_append_right (by omega), hl, Nat.sub_self, Nat.add_sub_cancel_left]
      exact ⟨rfl, rfl⟩
theorem twL_one (a b : Nat → Int) : ∀ n, ∀ u ∈ twL a b n, u.oneCell' = true
  | 0, _, h => by cases h
  | n + 1, u, h => by
    rw [twL] at h
    rcases List.mem_append.1 h with h | h
    · exact twL_one a b n u h
    · simp at h
      rcases h with rfl | rfl <;> rfl
theorem twL_src {w : World} {ao : Addr} {n : Nat} {a b : Nat → Int} (h : Two w (some ao) n a b) : ∀ j u, (twL a b n)[j]? = some u → w.cell? (ao.add j) = some u := by
  intro j u hj
  have hlt : j < n * 2 := by have := (List.getElem?_eq_some_iff.1 hj).1; rwa [twL_length] at this
  obtain ⟨g, off, e, _, hc⟩ := h (by omega)
  injection e with e
  subst e
  have hadd : (⟨g, off, none⟩ : Addr).add j = ⟨g, off + j, none⟩ := by unfold Addr.add; split <;> simp_all
  rw [hadd]
  obtain ⟨i, hi⟩ : ∃ i, j / 2 = i := ⟨_, rfl⟩
  obtain ⟨h0, h1⟩ := twL_at a b n i (by omega)
  obtain ⟨c0, c1⟩ := hc i (by omega)
  rcases (show j = i * 2 ∨ j = i * 2 + 1 by omega) with rfl | rfl
  · rw [h0] at hj; rw [← hj]; exact c0
  · rw [h1] at hj; rw [← hj, ← Nat.add_assoc]; exact c1
theorem row_twL {w : World} {B T : Nat} {ao : Option Addr} {cap n : Nat} {a b : Nat → Int} (h : w.ownsRow B T 2 (.slice ao n cap) n (twL a b n)) : Two w ao n a b := fun hn => by
  obtain ⟨ao', cap', e, hv⟩ := row_view h
  injection e with e1 e2 e3
  subst e1
  obtain ⟨g, rfl, hg⟩ := hv hn
  refine ⟨g, 0, rfl, hg, fun i hi => ?_⟩
  obtain ⟨h0, h1⟩ := twL_at a b n i hi
  rw [Nat.zero_add, World.ownsRow.cellAt h _ (by omega), World.ownsRow.cellAt h _ (by omega)]
  exact ⟨h0, h1⟩
/-- n rows of numbers, as values. -/
def frL (a b c d : Nat → Int) : Nat → List Value
  | 0 => []
  | n + 1 => frL a b c d n ++ [.int .i64 (a n), .int .i64 (b n), .int .i64 (c n), .int .i64 (d n)]
theorem frL_length (a b c d : Nat → Int) : ∀ n, (frL a b c d n).length = n * 4
  | 0 => rfl
  | n + 1 => by rw [frL, List.length_append, frL_length a b c d n]; simp; omega
theorem frL_at (a b c d : Nat → Int) : ∀ n i, i < n → (frL a b c d n)[i * 4]? = some (.int .i64 (a i)) ∧ (frL a b c d n)[i * 4 + 1]? = some (.int .i64 (b i)) ∧ (frL a b c d n)[i * 4 + 2]? = some (.int .i64 (c i)) ∧ (frL a b c d n)[i * 4 + 3]? = some (.int .i64 (d i))
  | 0, i, h => by omega
  | n + 1, i, h => by
    rw [frL]
    have hl := frL_length a b c d n
    by_cases hi : i < n
    · obtain ⟨h0, h1, h2, h3⟩ := frL_at a b c d n i hi
      rw [List.getElem?_append_left (by omega), List.getElem?_append_left (by omega), List.getElem?_append_left (by omega), List.getElem?_append_left (by omega)]
      exact ⟨h0, h1, h2, h3⟩
    · obtain rfl : i = n := by omega
      rw [List.getElem?_append_right (by omega), List.getElem?_append_right (by omega), List.getElem?_append_right (by omega), List.getElem?_append_right (by omega), hl, Nat.sub_self, Nat.add_sub_cancel_left, Nat.add_sub_cancel_left, Nat.add_sub_cancel_left]
      exact ⟨rfl, rfl, rfl, rfl⟩
theorem frL_one (a b c d : Nat → Int) : ∀ n, ∀ u ∈ frL a b c d n, u.oneCell' = true
  | 0, _, h => by cases h
  | n + 1, u, h => by
    rw [frL] at h
    rcases List.mem_append.1 h with h | h
    · exact frL_one a b c d n u h
    · simp at h
      rcases h with rfl | rfl | rfl | rfl <;> rfl
theorem frL_src {w : World} {ao : Addr} {n : Nat} {a b c d : Nat → Int} (h : Four w (some ao) n a b c d) : ∀ j u, (frL a b c d n)[j]? = some u → w.cell? (ao.add j) = some u := by
  intro j u hj
  have hlt : j < n * 4 := by have := (List.getElem?_eq_some_iff.1 hj).1; rwa [frL_length] at this
  obtain ⟨g, off, e, _, hc⟩ := h (by omega)
  injection e with e
  subst e
  have hadd : (⟨g, off, none⟩ : Addr).add j = ⟨g, off + j, none⟩ := by unfold Addr.add; split <;> simp_all
  rw [hadd]
  obtain ⟨i, hi⟩ : ∃ i, j / 4 = i := ⟨_, rfl⟩
  obtain ⟨h0, h1, h2, h3⟩ := frL_at a b c d n i (by omega)
  obtain ⟨c0, c1, c2, c3⟩ := hc i (by omega)
  rcases (show j = i * 4 ∨ j = i * 4 + 1 ∨ j = i * 4 + 2 ∨ j = i * 4 + 3 by omega) with rfl | rfl | rfl | rfl
  · rw [h0] at hj; rw [← hj]; exact c0
  · rw [h1] at hj; rw [← hj, ← Nat.add_assoc]; exact c1
  · rw [h2] at hj; rw [← hj, ← Nat.add_assoc]; exact c2
  · rw [h3] at hj; rw [← hj, ← Nat.add_assoc]; exact c3
theorem row_frL {w : World} {B T : Nat} {ao : Option Addr} {cap n : Nat} {a b c d : Nat → Int} (h : w.ownsRow B T 4 (.slice ao n cap) n (frL a b c d n)) : Four w ao n a b c d := fun hn => by
  obtain ⟨ao', cap', e, hv⟩ := row_view h
  injection e with e1 e2 e3
  subst e1
  obtain ⟨g, rfl, hg⟩ := hv hn
  refine ⟨g, 0, rfl, hg, fun i hi => ?_⟩
  obtain ⟨h0, h1, h2, h3⟩ := frL_at a b c d n i hi
  rw [Nat.zero_add, World.ownsRow.cellAt h _ (by omega), World.ownsRow.cellAt h _ (by omega), World.ownsRow.cellAt h _ (by omega), World.ownsRow.cellAt h _ (by omega)]
  exact ⟨h0, h1, h2, h3⟩
set_option maxRecDepth 100000 in
set_option maxHeartbeats 4000000 in
theorem cloneM (ao : Option Addr) (n cap : Nat) (a b : Nat → Int) (hn : n ≤ 1000) (w : World) (h : Two w ao n a b) :
    Calls Try.prog 67 #[.slice ao n cap] w (fun e w' => Below w.heap.size w w' ∧ ∃ ao' cap', e = .returned (.slice ao' n cap') ∧ w'.ownsRow w.heap.size 77 2 (.slice ao' n cap') n (twL a b n)) := by
  obtain ⟨i0, hinf, hz0, hz1, hz2⟩ := info_parts' infoM
  have q22 : ∀ (w : World) (a : Option Addr) (n c n' c' : Nat), (binOp .eql 63 (.slice a n c) (.slice none n' c')).run Try.prog w = .ok (.bool a.isNone) w := fun w a n c n' c' => Lib.run_eql_slice_nil w _ _ a n c n' c' Try.underlying63
  cases ao with
  | none =>
    have hn0 : n = 0 := by
      rcases Nat.eq_zero_or_pos n with e | e
      · exact e
      · obtain ⟨g, off, e1, _⟩ := h e
        cases e1
    subst hn0
    clear h hn
    go_enter Try.func67, Try.ntmps67
    go_wp2_with fail
    go_ret
    exact ⟨Below.refl _ _, _, _, rfl, World.ownsRow_nil _ _ _ _⟩
  | some ad =>
    have HH := Lib.hid h
    have hown : ∀ W : World, (W.alloc (.cells #[] 77)).ownsRow W.heap.size 77 2 (.slice (some ⟨W.heap.size, 0, none⟩) 0 0) 0 [] := fun W => World.ownsRow_made W #[] 0 (Nat.le_refl _) (Nat.zero_le _) rfl
    have HOW := Lib.hid (hown w)
    clear hown h
    go_enter Try.func67, Try.ntmps67
    go_wp2_with (at_builtin; refine wpList_append_own _ rfl _ _ 63 rfl w.heap.size 77 i0 (.agg #[.int .i64 0, .int .i64 0]) 2 16 Try.underlying63 hinf hz0 hz1 hz2 rfl (by decide) _ 0 [] rfl HOW.out ad n cap (twL a b n) rfl (twL_length a b n) ?c1 (twL_one a b n) ?c3 ?c4 ?c5 ?_)
    case c1 => exact twL_src (HH.out.below ((Below.refl _ _).alloc (Nat.le_refl _) _))
    case c3 => unfold maxLen; omega
    case c4 => omega
    case c5 => simp
    intro v' w' hown' hgrow _
    obtain ⟨ao', cap', e1, _⟩ := row_view hown'
    subst e1
    have HOW' := Lib.hid hown'
    have HB : Hid (Below w.heap.size w w') := ((Below.refl _ _).alloc (Nat.le_refl _) _).grown hgrow (by simp) (fun k' hk' => (HOW.out.lt k' hk').1)
    clear hown' hgrow
    go_wp2_with fail
    go_ret
    exact ⟨HB.out, _, _, rfl, HOW'.out⟩
set_option maxRecDepth 100000 in
set_option maxHeartbeats 4000000 in
theorem cloneS (ao : Option Addr) (n cap : Nat) (a b : Nat → Int) (hn : n ≤ 1000) (w : World) (h : Two w ao n a b) :
    Calls Try.prog 68 #[.slice ao n cap] w (fun e w' => Below w.heap.size w w' ∧ ∃ ao' cap', e = .returned (.slice ao' n cap') ∧ w'.ownsRow w.heap.size 81 2 (.slice ao' n cap') n (twL a b n)) := by
  obtain ⟨i0, hinf, hz0, hz1, hz2⟩ := info_parts' infoS
  have q22 : ∀ (w : World) (a : Option Addr) (n c n' c' : Nat), (binOp .eql 64 (.slice a n c) (.slice none n' c')).run Try.prog w = .ok (.bool a.isNone) w := fun w a n c n' c' => Lib.run_eql_slice_nil w _ _ a n c n' c' Try.underlying64
  cases ao with
  | none =>
    have hn0 : n = 0 := by
      rcases Nat.eq_zero_or_pos n with e | e
      · exact e
      · obtain ⟨g, off, e1, _⟩ := h e
        cases e1
    subst hn0
    clear h hn
    go_enter Try.func68, Try.ntmps68
    go_wp2_with fail
    go_ret
    exact ⟨Below.refl _ _, _, _, rfl, World.ownsRow_nil _ _ _ _⟩
  | some ad =>
    have HH := Lib.hid h
    have hown : ∀ W : World, (W.alloc (.cells #[] 81)).ownsRow W.heap.size 81 2 (.slice (some ⟨W.heap.size, 0, none⟩) 0 0) 0 [] := fun W => World.ownsRow_made W #[] 0 (Nat.le_refl _) (Nat.zero_le _) rfl
    have HOW := Lib.hid (hown w)
    clear hown h
    go_enter Try.func68, Try.ntmps68
    go_wp2_with (at_builtin; refine wpList_append_own _ rfl _ _ 64 rfl w.heap.size 81 i0 (.agg #[.int .i64 0, .int .i64 0]) 2 16 Try.underlying64 hinf hz0 hz1 hz2 rfl (by decide) _ 0 [] rfl HOW.out ad n cap (twL a b n) rfl (twL_length a b n) ?c1 (twL_one a b n) ?c3 ?c4 ?c5 ?_)
    case c1 => exact twL_src (HH.out.below ((Below.refl _ _).alloc (Nat.le_refl _) _))
    case c3 => unfold maxLen; omega
    case c4 => omega
    case c5 => simp
    intro v' w' hown' hgrow _
    obtain ⟨ao', cap', e1, _⟩ := row_view hown'
    subst e1
    have HOW' := Lib.hid hown'
    have HB : Hid (Below w.heap.size w w') := ((Below.refl _ _).alloc (Nat.le_refl _) _).grown hgrow (by simp) (fun k' hk' => (HOW.out.lt k' hk').1)
    clear hown' hgrow
    go_wp2_with fail
    go_ret
    exact ⟨HB.out, _, _, rfl, HOW'.out⟩
set_option maxRecDepth 100000 in
set_option maxHeartbeats 4000000 in
theorem cloneY (ao : Option Addr) (n cap : Nat) (a b c d : Nat → Int) (hn : n ≤ 1000) (w : World) (h : Four w ao n a b c d) :
    Calls Try.prog 69 #[.slice ao n cap] w (fun e w' => Below w.heap.size w w' ∧ ∃ ao' cap', e = .returned (.slice ao' n cap') ∧ w'.ownsRow w.heap.size 74 4 (.slice ao' n cap') n (frL a b c d n)) := by
  obtain ⟨i0, hinf, hz0, hz1, hz2⟩ := info_parts' infoCy
  have q22 : ∀ (w : World) (a : Option Addr) (n c n' c' : Nat), (binOp .eql 65 (.slice a n c) (.slice none n' c')).run Try.prog w = .ok (.bool a.isNone) w := fun w a n c n' c' => Lib.run_eql_slice_nil w _ _ a n c n' c' Try.underlying65
  cases ao with
  | none =>
    have hn0 : n = 0 := by
      rcases Nat.eq_zero_or_pos n with e | e
      · exact e
      · obtain ⟨g, off, e1, _⟩ := h e
        cases e1
    subst hn0
    clear h hn
    go_enter Try.func69, Try.ntmps69
    go_wp2_with fail
    go_ret
    exact ⟨Below.refl _ _, _, _, rfl, World.ownsRow_nil _ _ _ _⟩
  | some ad =>
    have HH := Lib.hid h
    have hown : ∀ W : World, (W.alloc (.cells #[] 74)).ownsRow W.heap.size 74 4 (.slice (some ⟨W.heap.size, 0, none⟩) 0 0) 0 [] := fun W => World.ownsRow_made W #[] 0 (Nat.le_refl _) (Nat.zero_le _) rfl
    have HOW := Lib.hid (hown w)
    clear hown h
    go_enter Try.func69, Try.ntmps69
    go_wp2_with (at_builtin; refine wpList_append_own _ rfl _ _ 65 rfl w.heap.size 74 i0 (.agg #[.int .i64 0, .int .i64 0, .int .i64 0, .int .i64 0]) 4 32 Try.underlying65 hinf hz0 hz1 hz2 rfl (by decide) _ 0 [] rfl HOW.out ad n cap (frL a b c d n) rfl (frL_length a b c d n) ?c1 (frL_one a b c d n) ?c3 ?c4 ?c5 ?_)
    case c1 => exact frL_src (HH.out.below ((Below.refl _ _).alloc (Nat.le_refl _) _))
    case c3 => unfold maxLen; omega
    case c4 => omega
    case c5 => simp
    intro v' w' hown' hgrow _
    obtain ⟨ao', cap', e1, _⟩ := row_view hown'
    subst e1
    have HOW' := Lib.hid hown'
    have HB : Hid (Below w.heap.size w w') := ((Below.refl _ _).alloc (Nat.le_refl _) _).grown hgrow (by simp) (fun k' hk' => (HOW.out.lt k' hk').1)
    clear hown' hgrow
    go_wp2_with fail
    go_ret
    exact ⟨HB.out, _, _, rfl, HOW'.out⟩
end Go.Proofs.Ythmbpoldjddheaa
