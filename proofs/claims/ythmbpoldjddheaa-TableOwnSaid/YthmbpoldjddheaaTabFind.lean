/- Tables: halving. -/
import Derived.Test.YthmbpoldjddheaaTabBase
namespace Go.Proofs.Ythmbpoldjddheaa
open Go.ChangeShapes Go.WideShapes Go.ChangeAt Go.RowKit
/-- What halving answers. -/
def FoundQ (a : Nat → Int) (n : Nat) (x : Int) (w : World) (e : Ending) (w' : World) : Prop :=
  Below w.heap.size w w' ∧ ∃ (p : Nat) (b : Bool), Place a n x p ∧ (b = true ↔ p < n ∧ a p = x) ∧ e = .returned (.tuple #[.int .i64 (p : Nat), .bool b])
theorem cmp3_neg {x y : Int} : cmp3 x y < 0 ↔ x < y := by unfold cmp3; split <;> (try split) <;> omega
theorem cmp3_nil {x y : Int} : cmp3 x y = 0 ↔ x = y := by unfold cmp3; split <;> (try split) <;> omega
set_option maxRecDepth 100000 in
set_option maxHeartbeats 4000000 in
theorem search_any (a : Nat → Int) (s : Nat → ByteArray) (n cap : Nat) (ao : Option Addr) (x : Int) (hn : n ≤ 1000000) (hr : Rises a n) (w : World) (h : RowsAt w ao n a s) :
    Calls Try.prog 73 #[.slice ao n cap, .int .i64 x, .func (.func 74) #[] #[]] w (FoundQ a n x w) := by
  have HC := Lib.hid (fun (b : Int) (t : ByteArray) (W : World) => rowcmp_any b x t W)
  have HI := Lib.hid h
  have HR := Lib.hid hr
  have n2 : (n : Int) ≤ 1000000 := by omega
  clear h hr hn
  go_enter Try.func73, Try.ntmps73
  go_wp2_with fail
  go_loopw [9, 10] (fun iv jv wr => ∃ i j : Nat, i ≤ j ∧ j ≤ n ∧ iv = .int .i64 (i : Nat) ∧ jv = .int .i64 (j : Nat) ∧ (∀ t, t < i → a t < x) ∧ (∀ t, j ≤ t → t < n → x ≤ a t) ∧ Below w.heap.size w wr) (fun iv jv _ => (intOf jv).toNat - (intOf iv).toNat)
  case atStart => exact ⟨0, n, Nat.zero_le _, Nat.le_refl _, rfl, rfl, fun t ht => absurd ht (Nat.not_lt_zero _), fun t h1 h2 => by omega, Below.refl _ _⟩
  case round =>
    obtain ⟨i, j, hij, hjn, rfl, rfl, hlo, hhi, hbr⟩ := hrel
    have HLO := Lib.hid hlo
    have HHI := Lib.hid hhi
    have HB := Lib.hid hbr
    have HIJ := Lib.hid hij
    have HJN := Lib.hid hjn
    have hi2 : (i : Int) ≤ 1000000 := by omega
    have hj2 : (j : Int) ≤ 1000000 := by omega
    clear hlo hhi hbr
    by_cases hlt : i < j
    · have hlt2 : (i : Int) < j := by omega
      obtain ⟨m, hm⟩ : ∃ m : Nat, m = (i + j) / 2 := ⟨_, rfl⟩
      have hmi : ((i : Int) + (j : Int)) / 2 = (m : Nat) := by omega
      have h1 : i ≤ m := by omega
      have h2 : m < j := by omega
      have hmn : (m : Int) < n := by omega
      obtain ⟨b, off, rfl, hb, hc⟩ := HI.out (by omega)
      have c1 := (HB.out.cell (by exact hb)).trans (hc m (by omega)).1
      have c2 := (HB.out.cell (by exact hb)).trans (hc m (by omega)).2
      have M1 := Lib.hid h1
      have M2 := Lib.hid h2
      clear hb hc hm hlt hij hjn h1 h2
      obtain ⟨y, hy⟩ : ∃ y, a m = y := ⟨_, rfl⟩
      obtain ⟨t, ht⟩ : ∃ t, s m = t := ⟨_, rfl⟩
      rw [hy] at c1
      rw [ht] at c2
      have HY := Lib.hid hy
      clear hy ht
      go_wp2_with fail
      refine (HC.out _ _ _).mono ?_
      rintro e w1 ⟨rfl, h1⟩
      have HB1 := Lib.hid (HB.out.trans (h1.mono HB.out.size))
      clear h1
      by_cases hyx : y < x
      · have g : decide (cmp3 y x < 0) = true := decide_eq_true (cmp3_neg.2 hyx)
        have HYX := Lib.hid hyx
        clear hyx
        go_wp2_with fail
        go_roundw
        case rel => exact ⟨m + 1, j, M2.out, HJN.out, by go_num, rfl, fun t ht => by
            have h0 := HR.out t m
            have h1 := HY.out
            have h2 := HYX.out
            have h3 := M2.out
            have h4 := HJN.out
            rcases Nat.lt_or_ge t m with l | l
            · have := h0 l (by omega); omega
            · rw [show t = m by omega]; omega, HHI.out, HB1.out⟩
        case measure => have := M1.out; have := M2.out; simp [intOf]; omega
      · have g : decide (cmp3 y x < 0) = false := decide_eq_false (fun h => hyx (cmp3_neg.1 h))
        have HYX := Lib.hid hyx
        clear hyx
        go_wp2_with fail
        go_roundw
        case rel => exact ⟨i, m, M1.out, by have := M2.out; have := HJN.out; omega, rfl, by go_num, HLO.out, fun t h1 h2 => by
            have h0 := HR.out m t
            have h3 := HY.out
            have h4 := HYX.out
            rcases Nat.lt_or_ge m t with l | l
            · have := h0 l h2; omega
            · rw [show t = m by omega]; omega, HB1.out⟩
        case measure => have := M1.out; have := M2.out; simp [intOf]; omega
    · obtain rfl : i = j := by omega
      have HP : Hid (Place a n x i) := ⟨HJN.out, HLO.out, HHI.out⟩
      clear HLO HHI hij hlt
      by_cases hin : i < n
      · have hin2 : (i : Int) < n := by omega
        obtain ⟨b, off, rfl, hb, hc⟩ := HI.out (by omega)
        have c1 := (HB.out.cell (by exact hb)).trans (hc i hin).1
        have c2 := (HB.out.cell (by exact hb)).trans (hc i hin).2
        have HIN := Lib.hid hin
        clear hb hc hin hjn
        obtain ⟨y, hy⟩ : ∃ y, a i = y := ⟨_, rfl⟩
        obtain ⟨t, ht⟩ : ∃ t, s i = t := ⟨_, rfl⟩
        rw [hy] at c1
        rw [ht] at c2
        have HY := Lib.hid hy
        clear hy ht
        go_wp2_with fail
        refine (HC.out _ _ _).mono ?_
        rintro e w1 ⟨rfl, h1⟩
        have HB1 := Lib.hid (HB.out.trans (h1.mono HB.out.size))
        clear h1
        go_wp2
        go_ret2
        refine ⟨HB1.out, i, _, HP.out, ?_, rfl⟩
        show (cmp3 y x == 0) = true ↔ _
        rw [beq_iff_eq, cmp3_nil, ← HY.out]
        exact ⟨fun h => ⟨HIN.out, h⟩, fun h => h.2⟩
      · obtain rfl : i = n := by omega
        clear hin
        go_wp2_with fail
        go_ret2
        refine ⟨HB.out, i, false, HP.out, ?_, rfl⟩
        exact ⟨fun h => (by cases h), fun h => absurd h.1 (Nat.lt_irrefl _)⟩
/-- A table lies at g: its room, and its rows by rising numbers. -/
structure TabAt (w : World) (g : Nat) (room : Nat) (n : Nat) (a : Nat → Int) (s : Nat → ByteArray) : Prop where
  here : g < w.heap.size
  room : w.cell? ⟨g, 0, none⟩ = some (.int .i64 (room : Nat))
  rows : ∃ ao cap, w.cell? ⟨g, 1, none⟩ = some (.slice ao n cap) ∧ RowsAt w ao n a s
  rises : Rises a n
set_option maxHeartbeats 1000000 in
theorem find_any (g room n : Nat) (a : Nat → Int) (s : Nat → ByteArray) (x : Int) (hn : n ≤ 1000000) (w : World) (h : TabAt w g room n a s) :
    Calls Try.prog 53 #[.pointer (some ⟨g, 0, none⟩), .int .i64 x] w (FoundQ a n x w) := by
  obtain ⟨h0, h1, ⟨ao, cap, h2, h3⟩, h4⟩ := h
  have HS := Lib.hid (search_any a s n cap ao x hn h4 w h3)
  clear h1 h3 h4 hn
  go_enter Try.func53, Try.ntmps53
  go_wp2_with fail
  refine HS.out.mono ?_
  rintro e w1 ⟨hb, p, b, hp, hq, rfl⟩
  have HB := Lib.hid hb
  have HP := Lib.hid hp
  have HQ := Lib.hid hq
  clear hb hp hq
  go_wp2
  go_ret2
  exact ⟨HB.out, p, b, HP.out, HQ.out, rfl⟩
set_option maxHeartbeats 1000000 in
theorem find_none (x : Int) (w : World) :
    Calls Try.prog 53 #[.pointer none, .int .i64 x] w (RetS (.tuple #[.int .i64 0, .bool false]) w) := by
  go_enter Try.func53, Try.ntmps53
  go_wp2_with fail
  go_ret2
  exact ⟨rfl, rfl⟩
set_option maxHeartbeats 1000000 in
theorem len_any (g room n : Nat) (a : Nat → Int) (s : Nat → ByteArray) (w : World) (h : TabAt w g room n a s) :
    Calls Try.prog 21 #[.pointer (some ⟨g, 0, none⟩)] w (RetS (.int .i64 (n : Nat)) w) := by
  obtain ⟨h0, h1, ⟨ao, cap, h2, h3⟩, h4⟩ := h
  clear h1 h3 h4
  go_enter Try.func21, Try.ntmps21
  go_wp2_with fail
  go_ret
  exact ⟨rfl, rfl⟩
set_option maxHeartbeats 1000000 in
theorem len_none (w : World) :
    Calls Try.prog 21 #[.pointer none] w (RetS (.int .i64 0) w) := by
  go_enter Try.func21, Try.ntmps21
  go_wp2_with fail
  go_ret
  exact ⟨rfl, rfl⟩
set_option maxHeartbeats 1000000 in
theorem left_any (g room n : Nat) (a : Nat → Int) (s : Nat → ByteArray) (hr : room ≤ 9223372036854775807) (hn : n ≤ room) (w : World) (h : TabAt w g room n a s) :
    Calls Try.prog 22 #[.pointer (some ⟨g, 0, none⟩)] w (fun e w' => e = .returned (.int .i64 ((room - n : Nat) : Int)) ∧ ∃ q, w' = w.drewN q) := by
  obtain ⟨h0, h1, ⟨ao, cap, h2, h3⟩, h4⟩ := h
  have e1 : IntKind.i64.wrap ((room : Int) - (n : Int)) = ((room - n : Nat) : Int) := by rw [IntWalk.i64_in _ (by omega)]; omega
  clear h3 h4 hr hn
  go_enter Try.func22, Try.ntmps22
  go_wp2_with fail
  go_quiet (fail)
  go_wp2_with fail
  go_ret
  exact ⟨rfl, _, rfl⟩
end Go.Proofs.Ythmbpoldjddheaa
