/- The document's table: Find, Near. -/
import Derived.Test.YthmbpoldjddheaaTabGet
namespace Go.Proofs.Ythmbpoldjddheaa
open Go.ChangeShapes Go.WideShapes Go.ChangeAt Go.RowKit
/-- A document's table lies at g: its room, and its rows as they came. -/
structure RTabAt (w : World) (g : Nat) (room : Nat) (n : Nat) (a : Nat → Int) (s : Nat → ByteArray) : Prop where
  here : g < w.heap.size
  room : w.cell? ⟨g, 0, none⟩ = some (.int .i64 (room : Nat))
  rows : ∃ ao cap, w.cell? ⟨g, 1, none⟩ = some (.slice ao n cap) ∧ RowsAt w ao n a s
theorem RTabAt.below {w w' : World} {g room n : Nat} {a : Nat → Int} {s : Nat → ByteArray} (h : RTabAt w g room n a s) (hb : Below w.heap.size w w') : RTabAt w' g room n a s := by
  obtain ⟨h0, h1, ⟨ao, cap, h2, h3⟩⟩ := h
  exact ⟨Nat.lt_of_lt_of_le h0 hb.size, (hb.cell (by exact h0)).trans h1, ⟨ao, cap, (hb.cell (by exact h0)).trans h2, h3.below hb⟩⟩
/-- Where x stands first. -/
inductive At (a : Nat → Int) (n : Nat) (x : Int) : Int → Prop
  | here (i : Nat) (hi : i < n) (e : a i = x) (first : ∀ j, j < i → a j ≠ x) : At a n x i
  | none (h : ∀ i, i < n → a i ≠ x) : At a n x (-1)
set_option maxRecDepth 100000 in
set_option maxHeartbeats 4000000 in
theorem reffind_any (g room n : Nat) (a : Nat → Int) (s : Nat → ByteArray) (x : Int) (hn : n ≤ 1000000) (w : World) (h : RTabAt w g room n a s) :
    Calls Try.prog 48 #[.pointer (some ⟨g, 0, none⟩), .int .i64 x] w (fun e w' => ∃ r : Int, At a n x r ∧ e = .returned (.int .i64 r) ∧ w = w') := by
  obtain ⟨h0, h1, ⟨ao, cap, h2, h3⟩⟩ := h
  have HI := Lib.hid h3
  have n2 : (n : Int) ≤ 1000000 := by omega
  clear h1 h3 hn
  go_enter Try.func48, Try.ntmps48
  go_wp2_with fail
  go_loopw [5] (fun iv wr => ∃ k : Nat, k ≤ n ∧ iv = .int .i64 (k : Nat) ∧ w = wr ∧ (∀ i, i < k → a i ≠ x)) (fun iv _ => n - (intOf iv).toNat)
  case atStart => exact ⟨0, Nat.zero_le _, rfl, rfl, fun i hi => absurd hi (Nat.not_lt_zero i)⟩
  case round =>
    obtain ⟨k, hk, rfl, rfl, hlo⟩ := hrel
    have hk2 : (k : Int) ≤ n := by omega
    have HLO := Lib.hid hlo
    clear hlo
    by_cases hlt : k < n
    · have hlt2 : (k : Int) < n := by omega
      obtain ⟨bb, off, rfl, hb, hc⟩ := HI.out (by omega)
      have c1 := (hc k hlt).1
      have HL := Lib.hid hlt
      clear hb hc hlt
      obtain ⟨y, hy⟩ : ∃ y, a k = y := ⟨_, rfl⟩
      rw [hy] at c1
      have HY := Lib.hid hy
      clear hy
      by_cases hyx : y = x
      · have g1 : (y == x) = true := by rw [beq_iff_eq]; exact hyx
        have HYX := Lib.hid hyx
        clear hyx
        go_wp2_with fail
        go_ret
        exact ⟨_, At.here k HL.out (HY.out.trans HYX.out) HLO.out, by first | trivial | rfl, by first | trivial | rfl⟩
      · have g1 : (y == x) = false := by rw [beq_eq_false_iff_ne]; exact hyx
        have HYX := Lib.hid hyx
        clear hyx
        go_wp2_with fail
        go_roundw
        case rel => exact ⟨k + 1, HL.out, by go_num, by first | trivial | rfl, fun i hi => by
            rcases Nat.lt_or_ge i k with l | l
            · exact HLO.out i l
            · rw [show i = k by omega, HY.out]; exact HYX.out⟩
        case measure => have := HL.out; simp [intOf]; omega
    · obtain rfl : k = n := by omega
      clear hlt
      go_wp2_with fail
      go_ret
      exact ⟨_, At.none HLO.out, by first | trivial | rfl, by first | trivial | rfl⟩
/-- Of the rows that are not below x the one with the least number. -/
inductive Least (a : Nat → Int) (n : Nat) (x : Int) : Int → Prop
  | here (b : Nat) (hb : b < n) (h : x ≤ a b) (least : ∀ i, i < n → x ≤ a i → a b ≤ a i) : Least a n x b
  | none (h : ∀ i, i < n → a i < x) : Least a n x (-1)
theorem Least.skip {a : Nat → Int} {k : Nat} {x r : Int} (h : Least a k x r) (hx : a k < x) : Least a (k + 1) x r := by
  cases h with
  | here b hb h hl =>
    refine .here b (by omega) h fun i hi hxi => ?_
    rcases Nat.lt_or_ge i k with l | l
    · exact hl i l hxi
    · rw [show i = k by omega] at hxi; omega
  | none h =>
    refine .none fun i hi => ?_
    rcases Nat.lt_or_ge i k with l | l
    · exact h i l
    · rw [show i = k by omega]; exact hx
theorem Least.keep {a : Nat → Int} {k b : Nat} {x : Int} (h : Least a k x b) (hx : ¬ a k < a b) : Least a (k + 1) x b := by
  generalize hr : (b : Int) = r at h
  cases h with
  | here b' hb h hl =>
    obtain rfl : b = b' := by omega
    refine .here b (by omega) h fun i hi hxi => ?_
    rcases Nat.lt_or_ge i k with l | l
    · exact hl i l hxi
    · rw [show i = k by omega]; omega
  | none h => omega
theorem Least.new {a : Nat → Int} {k b : Nat} {x : Int} (h : Least a k x b) (h0 : x ≤ a k) (hx : a k < a b) : Least a (k + 1) x k := by
  generalize hr : (b : Int) = r at h
  cases h with
  | here b' hb h hl =>
    obtain rfl : b = b' := by omega
    refine .here k (by omega) h0 fun i hi hxi => ?_
    rcases Nat.lt_or_ge i k with l | l
    · have := hl i l hxi; omega
    · rw [show i = k by omega]; omega
  | none h => omega
theorem Least.first {a : Nat → Int} {k : Nat} {x : Int} (h : Least a k x (-1)) (h0 : x ≤ a k) : Least a (k + 1) x k := by
  generalize hr : (-1 : Int) = r at h
  cases h with
  | here b' hb h hl => omega
  | none h =>
    refine .here k (by omega) h0 fun i hi hxi => ?_
    rcases Nat.lt_or_ge i k with l | l
    · have := h i l; omega
    · rw [show i = k by omega]; omega
end Go.Proofs.Ythmbpoldjddheaa
