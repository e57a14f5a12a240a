/- Ticks. -/
import Derived.Test.YthmbpoldjddheaaCfBase
namespace Go.Proofs.Ythmbpoldjddheaa
open Go.ChangeShapes Go.WideShapes Go.ChangeAt Go.RowKit
/-- The ticks of cycles, four each. -/
def tk (p q r s : Nat → Int) (j : Nat) : Int := if j % 4 = 0 then p (j / 4) else if j % 4 = 1 then q (j / 4) else if j % 4 = 2 then r (j / 4) else s (j / 4)
theorem infoT : (Try.prog.info? 3).map (fun i => (i.zero, i.size, i.bytes)) = some (some (.int .i64 0), 1, 8) := by kernel_rfl
theorem info_parts' {P : Program} {t : TypeId} {z : Value} {k b : Nat} (h : (P.info? t).map (fun i => (i.zero, i.size, i.bytes)) = some (some z, k, b)) : ∃ i, P.info? t = some i ∧ i.zero = some z ∧ i.size = k ∧ i.bytes = b := by
  cases hi : P.info? t with
  | none => rw [hi] at h; cases h
  | some i =>
    rw [hi] at h
    injection h with h
    injection h with h1 h2
    injection h2 with h2 h3
    exact ⟨i, rfl, h1, h2, h3⟩
theorem news_four (W : World) (a b c d : Value) (T g : Nat) (hg : W.heap.size = g) : ∀ j u, [a, b, c, d][j]? = some u → (W.alloc (.cells #[a, b, c, d] T)).cell? ((⟨g, 0, none⟩ : Addr).add j) = some u := by
  intro j u hj
  subst hg
  have hadd : (⟨W.heap.size, 0, none⟩ : Addr).add j = ⟨W.heap.size, j, none⟩ := by unfold Addr.add; split <;> simp_all
  rw [hadd]
  have h := heap_alloc_new W (.cells #[a, b, c, d] T)
  simp only [World.cell?, h]
  match j, hj with
  | 0, hj => simpa using hj
  | 1, hj => simpa using hj
  | 2, hj => simpa using hj
  | 3, hj => simpa using hj
set_option maxRecDepth 100000 in
theorem makeT (m : Nat) (hm : m ≤ 1000000) (W : World) : (Instr.makeSlice 70 (.int .i64 0) (.int .i64 (m : Int))).run Try.prog W = .ok (.slice (some ⟨W.heap.size, 0, none⟩) 0 m) (W.alloc (.cells (madeCells #[.int .i64 0] m) 3)) := by
  obtain ⟨i0, hinf, hz0, hz1, hz2⟩ := info_parts' infoT
  have h := run_makeSlice (P := Try.prog) W 70 3 i0 (.int .i64 0) Try.underlying70 hinf hz0 .i64 .i64 0 m (Int.le_refl _) (by omega) (by rw [hz1]; omega) (by rw [hz2]; omega) (by omega)
  rw [hz1] at h
  simpa [Value.cells] using h
/-- The ticks of the first i cycles, as values. -/
def tkL (p q r s : Nat → Int) : Nat → List Value
  | 0 => []
  | i + 1 => tkL p q r s i ++ [.int .i64 (p i), .int .i64 (q i), .int .i64 (r i), .int .i64 (s i)]
theorem tkL_length (p q r s : Nat → Int) : ∀ i, (tkL p q r s i).length = i * 4
  | 0 => rfl
  | i + 1 => by rw [tkL, List.length_append, tkL_length p q r s i]; simp; omega
theorem tkL_at (p q r s : Nat → Int) : ∀ n j, j < n * 4 → (tkL p q r s n)[j]? = some (.int .i64 (tk p q r s j))
  | 0, j, h => by omega
  | n + 1, j, h => by
    rw [tkL]
    by_cases hj : j < n * 4
    · rw [List.getElem?_append_left (by rw [tkL_length]; exact hj)]
      exact tkL_at p q r s n j hj
    · rw [List.getElem?_append_right (by rw [tkL_length]; omega), tkL_length]
      unfold tk
      have hd : j / 4 = n := by omega
      rw [hd]
      rcases (show j = n * 4 ∨ j = n * 4 + 1 ∨ j = n * 4 + 2 ∨ j = n * 4 + 3 by omega) with rfl | rfl | rfl | rfl
      · rw [if_pos (by omega), Nat.sub_self]; rfl
      · rw [if_neg (by omega), if_pos (by omega), Nat.add_sub_cancel_left]; rfl
      · rw [if_neg (by omega), if_neg (by omega), if_pos (by omega), Nat.add_sub_cancel_left]; rfl
      · rw [if_neg (by omega), if_neg (by omega), if_neg (by omega), Nat.add_sub_cancel_left]; rfl
theorem row_view {w : World} {B T k : Nat} {v : Value} {n : Nat} {xs : List Value} (h : w.ownsRow B T k v n xs) : ∃ ao cap, v = .slice ao n cap ∧ (0 < n → ∃ g, ao = some ⟨g, 0, none⟩ ∧ g < w.heap.size) := by
  rcases h.2 with ⟨rfl, rfl⟩ | ⟨g, cap, cur, rfl, _, h2, _⟩
  · exact ⟨none, 0, rfl, fun h => absurd h (Nat.lt_irrefl _)⟩
  · exact ⟨_, cap, rfl, fun _ => ⟨g, rfl, lt_of_block h2⟩⟩
theorem row_one {w : World} {B T : Nat} {ao : Option Addr} {cap n : Nat} {p q r s : Nat → Int} (h : w.ownsRow B T 1 (.slice ao (n * 4) cap) (n * 4) (tkL p q r s n)) : One w ao (n * 4) (tk p q r s) := fun hn => by
  obtain ⟨ao', cap', e, hv⟩ := row_view h
  injection e with e1 e2 e3
  subst e1
  obtain ⟨g, rfl, hg⟩ := hv hn
  refine ⟨g, 0, rfl, hg, fun j hj => ?_⟩
  rw [Nat.zero_add, World.ownsRow.cellAt h j (by omega)]
  exact tkL_at p q r s n j hj
set_option maxHeartbeats 4000000 in
set_option maxRecDepth 100000 in
theorem ticks_any (am au ac : Option Addr) (nm cm ns cs nc cc : Nat) (li ca le tr bi : Int) (p q r s : Nat → Int) (hn : nc ≤ 1000) (w : World) (h : Four w ac nc p q r s) :
    Calls Try.prog 38 #[.agg #[.slice am nm cm, .slice au ns cs, .slice ac nc cc, .int .i64 li, .int .i64 ca, .int .i64 le, .int .i64 tr, .int .i64 bi]] w (fun e w' => Below w.heap.size w w' ∧ ∃ ao cap, e = .returned (.slice ao (nc * 4) cap) ∧ One w' ao (nc * 4) (tk p q r s)) := by
  have n2 : (nc : Int) ≤ 1000 := by omega
  have H := Lib.hid h
  have HN := Lib.hid hn
  obtain ⟨i0, hinf, hz0, hz1, hz2⟩ := info_parts' infoT
  obtain ⟨m, hm⟩ : ∃ m : Nat, 4 * (nc : Int) = (m : Int) := ⟨4 * nc, by omega⟩
  have m2 : (m : Int) ≤ 4000 := by omega
  have gw : IntKind.i64.wrap (m : Int) = (m : Int) := by unfold IntKind.wrap; simp [IntKind.signed, IntKind.bits]; omega
  have gx : wrap64 (m : Int) = (m : Int) := Go.IntWalk.wrap64_in _ (by omega)
  have hmk := fun W => makeT m (by omega) W
  have HR0 : Hid (((w.alloc (.cells #[.slice am nm cm, .slice au ns cs, .slice ac nc cc, .int .i64 li, .int .i64 ca, .int .i64 le, .int .i64 tr, .int .i64 bi] 67)).alloc (.cells (madeCells #[.int .i64 0] m) 3)).ownsRow w.heap.size 3 1 (.slice (some ⟨w.heap.size + 1, 0, none⟩) 0 m) 0 []) := by
    have h := World.ownsRow_made (base := w.heap.size) (e := 3) (size := 1) (w.alloc (.cells #[.slice am nm cm, .slice au ns cs, .slice ac nc cc, .int .i64 li, .int .i64 ca, .int .i64 le, .int .i64 tr, .int .i64 bi] 67)) (madeCells #[.int .i64 0] m) m (by simp) (by unfold maxLen; omega) (by simp [madeCells])
    rwa [World.size_alloc] at h
  have HB0 : Hid (Below w.heap.size w ((w.alloc (.cells #[.slice am nm cm, .slice au ns cs, .slice ac nc cc, .int .i64 li, .int .i64 ca, .int .i64 le, .int .i64 tr, .int .i64 bi] 67)).alloc (.cells (madeCells #[.int .i64 0] m) 3))) := ((Below.refl _ _).alloc (Nat.le_refl _) _).alloc (by simp) _
  clear h hn
  go_enter Try.func38, Try.ntmps38
  go_wp2_with fail
  clear gw gx hm m2 hmk
  go_loopw [3, 14] (fun lv iv wr => ∃ i : Nat, i ≤ nc ∧ iv = .int .i64 i ∧ Hid (wr.ownsRow w.heap.size 3 1 lv (i * 4) (tkL p q r s i)) ∧ Hid (Below w.heap.size w wr)) (fun _ iv _ => nc - (intOf iv).toNat)
  case atStart => exact ⟨0, Nat.zero_le _, rfl, HR0.out, HB0.out⟩
  case round =>
    clear HR0 HB0
    obtain ⟨i, hi, rfl, HR, HB⟩ := hrel
    have hi2 : (i : Int) ≤ nc := by omega
    obtain ⟨aol, cl, rfl, _⟩ := row_view HR.out
    by_cases hlt : i < nc
    · have hlt2 : (i : Int) < nc := by omega
      obtain ⟨b, off, rfl, hb, hc⟩ := (H.out.below HB.out) (by omega)
      obtain ⟨c0, c1, c2, c3⟩ := hc i hlt
      have HL := Lib.hid hlt
      have HI4 : Hid (i * 4 + 4 ≤ 4000) := by have := HN.out; show _ ≤ _; omega
      clear hc hb hlt hi
      obtain ⟨y0, hy0⟩ : ∃ y, p i = y := ⟨_, rfl⟩
      obtain ⟨y1, hy1⟩ : ∃ y, q i = y := ⟨_, rfl⟩
      obtain ⟨y2, hy2⟩ : ∃ y, r i = y := ⟨_, rfl⟩
      obtain ⟨y3, hy3⟩ : ∃ y, s i = y := ⟨_, rfl⟩
      rw [hy0] at c0
      rw [hy1] at c1
      rw [hy2] at c2
      rw [hy3] at c3
      have HY : Hid (p i = y0 ∧ q i = y1 ∧ r i = y2 ∧ s i = y3) := ⟨hy0, hy1, hy2, hy3⟩
      clear hy0 hy1 hy2 hy3
      go_wp2_with (at_builtin; refine wpList_append_lies _ rfl _ _ 70 rfl w.heap.size 3 i0 (.int .i64 0) 1 8 Try.underlying70 hinf hz0 hz1 hz2 rfl (by decide) (.slice aol (i * 4) cl) (i * 4) (tkL p q r s i) rfl (World.ownsRow.alloc (World.ownsRow.alloc HR.out _) _) ⟨wr.heap.size + 1, 0, none⟩ 4 4 [.int .i64 y0, .int .i64 y1, .int .i64 y2, .int .i64 y3] rfl rfl ?a1 ?a2 (by decide) ?a3 ?a4 ?a5 _ rfl ?_)
      case a1 => exact news_four _ _ _ _ _ _ _ (World.size_alloc _ _)
      case a2 => intro u hu; simp at hu; rcases hu with rfl | rfl | rfl | rfl <;> rfl
      case a3 => unfold maxLen; have := HI4.out; omega
      case a4 => have := HI4.out; omega
      case a5 => have := HB.out.size; simp; omega
      intro g2 cap2 w2 hown hgrow hat _
      have HO := Lib.hid hown
      have HG : Hid (Below w.heap.size w w2) := by
        refine (((HB.out.alloc HB.out.size _).alloc (by have := HB.out.size; simp; omega) _)).trans ⟨hgrow.os, hgrow.tape, hgrow.output, hgrow.size, fun k hk => hgrow.block k (by have := HB.out.size; simp; omega) (fun e => ?_)⟩
        have := (World.ownsRow.lt HR.out k e.symm).1
        omega
      clear hown hgrow hat
      go_wp2_with fail
      go_roundw
      case rel => exact ⟨i + 1, HL.out, by go_num, by
          have h := HO.out
          obtain ⟨r0, r1, r2, r3⟩ := HY.out
          rw [← r0, ← r1, ← r2, ← r3] at h
          have e : (i + 1) * 4 = i * 4 + 4 := by omega
          rw [e]
          exact h, HG.out⟩
      case measure => have := HL.out; simp [intOf]; omega
    · obtain rfl : i = nc := by omega
      clear hlt hi hi2
      go_wp2_with fail
      go_ret
      exact ⟨HB.out, aol, cl, rfl, row_one HR.out⟩
end Go.Proofs.Ythmbpoldjddheaa
