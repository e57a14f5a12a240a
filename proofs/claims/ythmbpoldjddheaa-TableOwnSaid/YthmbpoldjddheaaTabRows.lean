/- Tables: the document's Rows. -/
import Derived.Test.YthmbpoldjddheaaTabPutT
namespace Go.Proofs.Ythmbpoldjddheaa
open Go.ChangeShapes Go.WideShapes Go.ChangeAt Go.RowKit
theorem rowCells_set0 (a : Nat → Int) (s : Nat → ByteArray) (p : Nat) (x : Int) : ∀ n, p < n → (rowCells a s n).set (p * 2) (.int .i64 x) = rowCells (fun i => if i = p then x else a i) s n
  | 0, h => absurd h (Nat.not_lt_zero _)
  | n + 1, h => by
    have hl := rowCells_length a s n
    rw [rowCells, rowCells]
    by_cases hp : p < n
    · rw [List.set_append_left _ _ (by omega), rowCells_set0 a s p x n hp, if_neg (by omega)]
    · obtain rfl : p = n := by omega
      rw [List.set_append_right _ _ (by omega), hl, Nat.sub_self, if_pos rfl]
      congr 1
      exact rowCells_congr p fun i hi => ⟨by rw [if_neg (by omega)], rfl⟩
/-- Two neighbours change their places. -/
theorem ins_from {b : Nat → Int} {u : Nat → ByteArray} {c : Nat → Int} {d : Nat → ByteArray} {i k : Nat} {x : Int} {t : ByteArray} (h : ∀ q, q < i → ∃ j, j < i ∧ c q = b j ∧ d q = u j) (hx : b i = x) (ht : u i = t) (hk : k ≤ i) : ∀ q, q < i + 1 → ∃ j, j < i + 1 ∧ insA c k x q = b j ∧ insS d k t q = u j := fun q hq => by
  unfold insA insS
  by_cases h1 : q < k
  · rw [if_pos h1, if_pos h1]
    obtain ⟨j, hj, e1, e2⟩ := h q (by omega)
    exact ⟨j, by omega, e1, e2⟩
  · rw [if_neg h1, if_neg h1]
    by_cases h2 : q = k
    · rw [if_pos h2, if_pos h2]
      exact ⟨i, by omega, hx.symm, ht.symm⟩
    · rw [if_neg h2, if_neg h2]
      obtain ⟨j, hj, e1, e2⟩ := h (q - 1) (by omega)
      exact ⟨j, by omega, e1, e2⟩
theorem OwnsR.swap {w : World} {B T g n cap m : Nat} {c : Nat → Int} {d : Nat → ByteArray} {x : Int} {t : ByteArray} (h : OwnsR w B T (.slice (some ⟨g, 0, none⟩) n cap) n (insA c (m + 1) x) (insS d (m + 1) t)) (hm : m + 1 < n) :
    OwnsR ((((w.setCell ⟨g, m * 2, none⟩ (.int .i64 x)).setCell ⟨g, m * 2 + 1, none⟩ (.string t)).setCell ⟨g, (m + 1) * 2, none⟩ (.int .i64 (c m))).setCell ⟨g, (m + 1) * 2 + 1, none⟩ (.string (d m))) B T (.slice (some ⟨g, 0, none⟩) n cap) n (insA c m x) (insS d m t) := by
  have h1 := (World.ownsRow.stored h (m * 2) (.int .i64 x)).1
  rw [rowCells_set0 _ _ m x n (by omega)] at h1
  have h2 := (World.ownsRow.stored h1 (m * 2 + 1) (.string t)).1
  rw [rowCells_set _ _ m t n (by omega)] at h2
  have h3 := (World.ownsRow.stored h2 ((m + 1) * 2) (.int .i64 (c m))).1
  rw [rowCells_set0 _ _ (m + 1) (c m) n hm] at h3
  have h4 := (World.ownsRow.stored h3 ((m + 1) * 2 + 1) (.string (d m))).1
  rw [rowCells_set _ _ (m + 1) (d m) n hm] at h4
  show World.ownsRow _ _ _ 2 _ _ _
  have e : rowCells (insA c m x) (insS d m t) n = rowCells (fun i => if i = m + 1 then c m else if i = m then x else insA c (m + 1) x i) (fun i => if i = m + 1 then d m else if i = m then t else insS d (m + 1) t i) n := by
    refine rowCells_congr n fun q _ => ?_
    unfold insA insS
    by_cases q1 : q = m + 1
    · subst q1
      simp [show ¬ m + 1 < m by omega]
    · by_cases q2 : q = m
      · subst q2
        simp
      · by_cases q3 : q < m
        · simp [q1, q2, q3, show q < m + 1 by omega]
        · simp [q1, q2, q3, show ¬ q < m + 1 by omega]
  rw [e]
  exact h4
set_option maxHeartbeats 4000000 in
set_option maxRecDepth 100000 in
theorem refrows_any (g room n : Nat) (b : Nat → Int) (u : Nat → ByteArray) (hn : n ≤ 1000) (hd : ∀ i j, i < j → j < n → b i ≠ b j) (w : World) (h : RTabAt w g room n b u) :
    Calls Try.prog 52 #[.pointer (some ⟨g, 0, none⟩)] w (fun e w' => Below w.heap.size w w' ∧ ∃ v c d, e = .returned v ∧ OwnsR w' w.heap.size 37 v n c d ∧ Rises c n ∧ ∀ i, i < n → ∃ j, j < n ∧ c i = b j ∧ d i = u j) := by
  obtain ⟨h0, h1, ⟨ao, cap, h2, h3⟩⟩ := h
  have n2 : (n : Int) ≤ 1000 := by omega
  obtain ⟨i0, hinf, hz0, hz1, hz2⟩ := info_parts infoQ
  have HD := Lib.hid hd
  have H3 := Lib.hid h3
  have HH0 := Lib.hid h0
  clear h1 h3 hn hd
  go_enter Try.func52, Try.ntmps52
  go_wp2_with fail
  have HC := Lib.hid h2
  clear h2 h0
  go_loopw [3, 4] (fun sv iv wr => ∃ (i : Nat) (c : Nat → Int) (d : Nat → ByteArray), i ≤ n ∧ iv = .int .i64 i ∧ OwnsR wr w.heap.size 37 sv i c d ∧ Rises c i ∧ (∀ q, q < i → ∃ j, j < i ∧ c q = b j ∧ d q = u j) ∧ Below w.heap.size w wr) (fun _ iv _ => n - (intOf iv).toNat)
  case atStart => exact ⟨0, fun _ => 0, fun _ => ⟨#[]⟩, Nat.zero_le _, rfl, OwnsR.nil _ _ _ _ _, fun i j _ hj => by omega, fun q hq => by omega, Below.refl _ _⟩
  case round =>
    obtain ⟨i, c, d, hi, rfl, hown, hri, hfrom, hbel⟩ := hrel
    have hi2 : (i : Int) ≤ n := by omega
    have k1 : wr.cell? ⟨g, 1, none⟩ = some (.slice ao n cap) := (hbel.cell (by exact HH0.out)).trans HC.out
    by_cases hlt : i < n
    · have hlt2 : (i : Int) < n := by omega
      obtain ⟨bb, off, rfl, hbb, hc⟩ := H3.out.below hbel (by omega)
      obtain ⟨c1, c2⟩ := hc i hlt
      have HR := Lib.hid hri
      have HFR := Lib.hid hfrom
      have HLT := Lib.hid hlt
      have HBI : Hid (∀ q, q < i → c q ≠ b i) := fun q hq => by
        obtain ⟨j, hj, e, _⟩ := hfrom q hq
        rw [e]
        exact HD.out j i hj hlt
      have hsz := hbel.size
      obtain ⟨ax, cx, rfl, _⟩ := hown.view
      clear hc hri hfrom hlt
      obtain ⟨x, hx⟩ : ∃ x, b i = x := ⟨_, rfl⟩
      obtain ⟨t, ht⟩ : ∃ t, u i = t := ⟨_, rfl⟩
      rw [hx] at c1 HBI
      rw [ht] at c2
      have HX := Lib.hid hx
      have HTT := Lib.hid ht
      clear hx ht
      go_wp2_with (at_builtin; refine wpList_append_row _ rfl _ _ 27 rfl w.heap.size 37 i0 (.agg #[.int .i64 0, .string ⟨#[]⟩]) 24 Try.underlying27 hinf hz0 hz1 hz2 rfl _ i _ rfl (World.ownsRow.alloc hown _) wr.heap.size 1 (.int .i64 x) (.string t) rfl ?a1 ?a2 rfl rfl ?a3 ?a4 ?a5 ?_)
      case a1 => rw [World.cell?_alloc_new]; rfl
      case a2 => rw [World.cell?_alloc_new]; rfl
      case a3 => unfold maxLen; omega
      case a4 => omega
      case a5 => simp; omega
      intro v3 w3 hown3 hgrow3 hnear3
      have HB3 : Hid (Below w.heap.size w w3) := (hbel.alloc hbel.size _).grown hgrow3 (by simp; omega) (fun k' hk' => (World.ownsRow.lt hown k' hk').1)
      have hown4 : OwnsR w3 w.heap.size 37 v3 (i + 1) (insA c i x) (insS d i t) := by
        show World.ownsRow _ _ _ 2 _ _ _
        rw [rowCells_ins c d i i x t (Nat.le_refl _), Nat.sub_self]
        simpa [rowCells] using hown3
      obtain ⟨a3, cap3, rfl, hrw⟩ := hown4.view
      obtain ⟨g3, off3, rfl, _⟩ := hrw (by omega)
      have hoff : off3 = 0 := by
        rcases hown4.2 with ⟨e, _⟩ | ⟨g', c', cur', e, _⟩
        · cases e
        · injection e with e1 _ _
          injection e1 with e1
          injection e1 with _ e2
      subst hoff
      have HO4 := Lib.hid hown4
      have hbg := hbel.size
      clear hown hown3 hown4 hgrow3 hnear3 hbel hrw c1 c2 k1
      go_wp2_with fail
      obtain ⟨wq, hwq⟩ : ∃ x, x = w3 := ⟨_, rfl⟩
      rw [← hwq] at HO4 HB3 ⊢
      clear hwq
      have i2 : (i : Int) ≤ 1000 := by omega
      go_loopw [5] (fun kv wr => ∃ k : Nat, k ≤ i ∧ kv = .int .i64 k ∧ OwnsR wr w.heap.size 37 (.slice (some ⟨g3, 0, none⟩) (i + 1) cap3) (i + 1) (insA c k x) (insS d k t) ∧ (∀ j, k ≤ j → j < i → x < c j) ∧ Below w.heap.size w wr) (fun kv _ => (intOf kv).toNat)
      case atStart => exact ⟨i, Nat.le_refl _, rfl, HO4.out, fun j h1 h2 => by omega, HB3.out⟩
      case round =>
        obtain ⟨k, hk, rfl, hown, hhi, hbel⟩ := hrel
        cases k with
        | zero =>
          have HPL : Hid (Place c i x 0) := ⟨Nat.zero_le _, fun q hq => by omega, fun q _ hq => Int.le_of_lt (hhi q (Nat.zero_le _) hq)⟩
          have HO5 := Lib.hid hown
          have HB5 := Lib.hid hbel
          clear hown hhi hbel hk
          go_wp2_with fail
          go_quiet (fail)
          go_wp2_with fail
          go_roundw
          case rel => exact ⟨i + 1, insA c 0 x, insS d 0 t, by have := HLT.out; omega, by go_num, HO5.out, HR.out.ins HPL.out HBI.out, ins_from HFR.out HX.out HTT.out (Nat.zero_le _), below_drewN HB5.out _⟩
          case measure => have := HLT.out; simp [intOf]; omega
        | succ m =>
          have hcm := World.ownsRow.cellAt hown
          obtain ⟨ra, rb⟩ := rowCells_at (insA c (m + 1) x) (insS d (m + 1) t) (i + 1) m (by omega)
          obtain ⟨rc, rd⟩ := rowCells_at (insA c (m + 1) x) (insS d (m + 1) t) (i + 1) (m + 1) (by omega)
          have y1 := hcm (m * 2) (by omega)
          have y2 := hcm (m * 2 + 1) (by omega)
          have y3 := hcm ((m + 1) * 2) (by omega)
          have y4 := hcm ((m + 1) * 2 + 1) (by omega)
          rw [ra, show insA c (m + 1) x m = c m from by simp [insA]] at y1
          rw [rb, show insS d (m + 1) t m = d m from by simp [insS]] at y2
          rw [rc, show insA c (m + 1) x (m + 1) = x from by simp [insA]] at y3
          rw [rd, show insS d (m + 1) t (m + 1) = t from by simp [insS]] at y4
          have fr := World.ownsRow.frozenAt hown
          have f1 := fr (m * 2)
          have f2 := fr (m * 2 + 1)
          have f3 := fr ((m + 1) * 2)
          have f4 := fr ((m + 1) * 2 + 1)
          have ek : ((m + 1 : Nat) : Int) - 1 = (m : Int) := by omega
          have hm1 : (m : Int) < ((i + 1 : Nat) : Int) := by omega
          have hm2 : ((m + 1 : Nat) : Int) < ((i + 1 : Nat) : Int) := by omega
          have dk : decide (0 < ((m + 1 : Nat) : Int)) = true := decide_eq_true (by omega)
          have HO5 := Lib.hid hown
          have HB5 := Lib.hid hbel
          have HHI := Lib.hid hhi
          have HMI : Hid (m < i) := by show m < i; omega
          clear ra rb rc rd hcm fr
          obtain ⟨y, hy⟩ : ∃ y, c m = y := ⟨_, rfl⟩
          rw [hy] at y1
          by_cases hgt : x < y
          · have dg := decide_eq_true hgt
            have HGT := Lib.hid hgt
            have HY := Lib.hid hy
            obtain ⟨z, hz⟩ : ∃ z, d m = z := ⟨_, rfl⟩
            rw [hz] at y2
            have HZ := Lib.hid hz
            clear hown hbel hhi hk hgt hy hz
            go_wp2_with fail
            go_quiet (fail)
            go_wp2_with fail
            generalize hw5 : World.drewN wr _ = w5
            have HB6 : Hid (Below w.heap.size w w5) := by rw [← hw5]; exact below_drewN HB5.out _
            have HO6 : Hid (OwnsR w5 w.heap.size 37 (.slice (some ⟨g3, 0, none⟩) (i + 1) cap3) (i + 1) (insA c (m + 1) x) (insS d (m + 1) t)) := by rw [← hw5]; exact HO5.out
            have z1 : w5.cell? ⟨g3, m * 2, none⟩ = some (.int .i64 y) := by rw [← hw5]; exact y1
            have z2 : w5.cell? ⟨g3, m * 2 + 1, none⟩ = some (.string z) := by rw [← hw5]; exact y2
            have z3 : w5.cell? ⟨g3, (m + 1) * 2, none⟩ = some (.int .i64 x) := by rw [← hw5]; exact y3
            have z4 : w5.cell? ⟨g3, (m + 1) * 2 + 1, none⟩ = some (.string t) := by rw [← hw5]; exact y4
            have q1 : w5.frozen? ⟨g3, m * 2, none⟩ = false := by rw [← hw5]; exact f1
            have q2 : w5.frozen? ⟨g3, m * 2 + 1, none⟩ = false := by rw [← hw5]; exact f2
            have q3 : w5.frozen? ⟨g3, (m + 1) * 2, none⟩ = false := by rw [← hw5]; exact f3
            have q4 : w5.frozen? ⟨g3, (m + 1) * 2 + 1, none⟩ = false := by rw [← hw5]; exact f4
            clear hw5 y1 y2 y3 y4 f1 f2 f3 f4 HB5 HO5
            go_region
            have HSW := HO6.out.swap (m := m) (by have := HMI.out; omega)
            rw [HY.out, HZ.out] at HSW
            have HSW2 := Lib.hid HSW
            have HBS : Hid (w.heap.size ≤ g3) := (World.ownsRow.lt HO6.out g3 rfl).1
            have HBW : Hid (Below w.heap.size w ((((w5.setCell ⟨g3, m * 2, none⟩ (.int .i64 x)).setCell ⟨g3, m * 2 + 1, none⟩ (.string t)).setCell ⟨g3, (m + 1) * 2, none⟩ (.int .i64 y)).setCell ⟨g3, (m + 1) * 2 + 1, none⟩ (.string z)).drew) := (((((HB6.out.setCell (p := ⟨g3, m * 2, none⟩) (by exact HBS.out) _).setCell (p := ⟨g3, m * 2 + 1, none⟩) (by exact HBS.out) _).setCell (p := ⟨g3, (m + 1) * 2, none⟩) (by exact HBS.out) _).setCell (p := ⟨g3, (m + 1) * 2 + 1, none⟩) (by exact HBS.out) _)).drew
            clear HSW z1 z2 z3 z4 q1 q2 q3 q4
            go_wp2_with fail
            go_roundw
            case rel => exact ⟨m, by have := HMI.out; omega, by go_num, HSW2.out, fun j h1 h2 => by
              by_cases e : j = m
              · rw [e, HY.out]; exact HGT.out
              · exact HHI.out j (by omega) h2, HBW.out⟩
            case measure => simp [intOf]; try omega
          · have dg := decide_eq_false hgt
            have HPL : Hid (Place c i x (m + 1)) := ⟨hk, fun q hq => by
              have h1 := HBI.out m HMI.out
              rw [hy] at h1
              by_cases e : q = m
              · rw [e, hy]; omega
              · have := HR.out q m (by omega) HMI.out
                rw [hy] at this
                omega, fun q h1 h2 => Int.le_of_lt (hhi q h1 h2)⟩
            clear hown hbel hhi hk hgt hy
            go_wp2_with fail
            go_quiet (fail)
            go_wp2_with fail
            go_roundw
            case rel => exact ⟨i + 1, insA c (m + 1) x, insS d (m + 1) t, by have := HLT.out; omega, by go_num, HO5.out, HR.out.ins HPL.out HBI.out, ins_from HFR.out HX.out HTT.out (by have := HMI.out; omega), below_drewN HB5.out _⟩
            case measure => have := HLT.out; simp [intOf]; omega
    · obtain rfl : i = n := by omega
      have HO := Lib.hid hown
      have HB := Lib.hid hbel
      have HR := Lib.hid hri
      have HFR := Lib.hid hfrom
      obtain ⟨ax, cx, rfl, _⟩ := hown.view
      clear hown hbel hri hfrom hlt hi
      go_wp2_with fail
      go_ret
      exact ⟨HB.out, _, c, d, rfl, HO.out, HR.out, HFR.out⟩
end Go.Proofs.Ythmbpoldjddheaa
