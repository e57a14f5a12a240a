/- The document's table: Find, Near. -/
import Derived.Test.YtmepaeppkeaifaaTabGet
namespace Go.Proofs.Ytmepaeppkeaifaa
open Go.ChangeShapes Go.WideShapes Go.ChangeAt Go.RowKit
/-- A document's table lies at g: its room, and its rows as they came. -/
structure RTabAt (w : World) (g : Nat) (room : Nat) (n : Nat) (a : Nat → Int) (s : Nat → ByteArray) : Prop where
  here : g < w.heap.size
  room : w.cell? ⟨g, 0, none⟩ = some (.int .i64 (room : Nat))
  rows : ∃ ao cap, w.cell? ⟨g, 1, none⟩ = some (.slice ao n cap) ∧ RowsAt w ao n a s
theorem RTabAt.below {w w' : World} {g room n : Nat} {a : Nat → Int} {s : Nat → ByteArray} (h : RTabAt w g room n a s) (hb : Below w.heap.size w w') : RTabAt w' g room n a s := by
  obtain ⟨h0, h1, ⟨ao, cap, h2, h3⟩⟩ := h
  exact ⟨Nat.lt_of_lt_of_le h0 hb.size, (hb.cell (by exact h0)).trans h1, ⟨ao, cap, (hb.cell (by exact h0)).trans h2, h3.below hb⟩⟩
/-- Where x stands first. -/
inductive At (a : Nat → Int) (n : Nat) (x : Int) : Int → Prop
  | here (i : Nat) (hi : i < n) (e : a i = x) (first : ∀ j, j < i → a j ≠ x) : At a n x i
  | none (h : ∀ i, i < n → a i ≠ x) : At a n x (-1)
set_option maxRecDepth 100000 in
set_option maxHeartbeats 4000000 in
theorem reffind_any (g room n : Nat) (a : Nat → Int) (s : Nat → ByteArray) (x : Int) (hn : n ≤ 1000000) (w : World) (h : RTabAt w g room n a s) :
    Calls Try.prog 41 #[.pointer (some ⟨g, 0, none⟩), .int .i64 x] w (fun e w' => ∃ r : Int, At a n x r ∧ e = .returned (.int .i64 r) ∧ w = w') := by
  obtain ⟨h0, h1, ⟨ao, cap, h2, h3⟩⟩ := h
  have HI := Lib.hid h3
  have n2 : (n : Int) ≤ 1000000 := by omega
  clear h1 h3 hn
  go_enter Try.func41, Try.ntmps41
  go_wp2_with fail
  go_loopw [5] (fun iv wr => ∃ k : Nat, k ≤ n ∧ iv = .int .i64 (k : Nat) ∧ w = wr ∧ (∀ i, i < k → a i ≠ x)) (fun iv _ => n - (intOf iv).toNat)
  case atStart => exact ⟨0, Nat.zero_le _, rfl, rfl, fun i hi => absurd hi (Nat.not_lt_zero i)⟩
  case round =>
    obtain ⟨k, hk, rfl, rfl, hlo⟩ := hrel
    have hk2 : (k : Int) ≤ n := by omega
    have HLO := Lib.hid hlo
    clear hlo
    by_cases hlt : k < n
    · have hlt2 : (k : Int) < n := by omega
      obtain ⟨bb, off, rfl, hb, hc⟩ := HI.out (by omega)
      have c1 := (hc k hlt).1
      have HL := Lib.hid hlt
      clear hb hc hlt
      obtain ⟨y, hy⟩ : ∃ y, a k = y := ⟨_, rfl⟩
      rw [hy] at c1
      have HY := Lib.hid hy
      clear hy
      by_cases hyx : y = x
      · have g1 : (y == x) = true := by rw [beq_iff_eq]; exact hyx
        have HYX := Lib.hid hyx
        clear hyx
        go_wp2_with fail
        go_ret
        exact ⟨_, At.here k HL.out (HY.out.trans HYX.out) HLO.out, by first | trivial | rfl, by first | trivial | rfl⟩
      · have g1 : (y == x) = false := by rw [beq_eq_false_iff_ne]; exact hyx
        have HYX := Lib.hid hyx
        clear hyx
        go_wp2_with fail
        go_roundw
        case rel => exact ⟨k + 1, HL.out, by go_num, by first | trivial | rfl, fun i hi => by
            rcases Nat.lt_or_ge i k with l | l
            · exact HLO.out i l
            · rw [show i = k by omega, HY.out]; exact HYX.out⟩
        case measure => have := HL.out; simp [intOf]; omega
    · obtain rfl : k = n := by omega
      clear hlt
      go_wp2_with fail
      go_ret
      exact ⟨_, At.none HLO.out, by first | trivial | rfl, by first | trivial | rfl⟩
/-- Of the rows that are not below x the one with the least number. -/
inductive Least (a : Nat → Int) (n : Nat) (x : Int) : Int → Prop
  | here (b : Nat) (hb : b < n) (h : x ≤ a b) (least : ∀ i, i < n → x ≤ a i → a b ≤ a i) : Least a n x b
  | none (h : ∀ i, i < n → a i < x) : Least a n x (-1)
theorem Least.skip {a : Nat → Int} {k : Nat} {x r : Int} (h : Least a k x r) (hx : a k < x) : Least a (k + 1) x r := by
  cases h with
  | here b hb h hl =>
    refine .here b (by omega) h fun i hi hxi => ?_
    rcases Nat.lt_or_ge i k with l | l
    · exact hl i l hxi
    · rw [show i = k by omega] at hxi; omega
  | none h =>
    refine .none fun i hi => ?_
    rcases Nat.lt_or_ge i k with l | l
    · exact h i l
    · rw [show i = k by omega]; exact hx
theorem Least.keep {a : Nat → Int} {k b : Nat} {x : Int} (h : Least a k x b) (hx : ¬ a k < a b) : Least a (k + 1) x b := by
  generalize hr : (b : Int) = r at h
  cases h with
  | here b' hb h hl =>
    obtain rfl : b = b' := by omega
    refine .here b (by omega) h fun i hi hxi => ?_
    rcases Nat.lt_or_ge i k with l | l
    · exact hl i l hxi
    · rw [show i = k by omega]; omega
  | none h => omega
theorem Least.new {a : Nat → Int} {k b : Nat} {x : Int} (h : Least a k x b) (h0 : x ≤ a k) (hx : a k < a b) : Least a (k + 1) x k := by
  generalize hr : (b : Int) = r at h
  cases h with
  | here b' hb h hl =>
    obtain rfl : b = b' := by omega
    refine .here k (by omega) h0 fun i hi hxi => ?_
    rcases Nat.lt_or_ge i k with l | l
    · have := hl i l hxi; omega
    · rw [show i = k by omega]; omega
  | none h => omega
theorem Least.first {a : Nat → Int} {k : Nat} {x : Int} (h : Least a k x (-1)) (h0 : x ≤ a k) : Least a (k + 1) x k := by
  generalize hr : (-1 : Int) = r at h
  cases h with
  | here b' hb h hl => omega
  | none h =>
    refine .here k (by omega) h0 fun i hi hxi => ?_
    rcases Nat.lt_or_ge i k with l | l
    · have := h i l; omega
    · rw [show i = k by omega]; omega
set_option maxRecDepth 100000 in
set_option maxHeartbeats 4000000 in
theorem refnear_any (g room n : Nat) (a : Nat → Int) (s : Nat → ByteArray) (x : Int) (hn : n ≤ 1000000) (w : World) (h : RTabAt w g room n a s) :
    Calls Try.prog 13 #[.pointer (some ⟨g, 0, none⟩), .int .i64 x] w (fun e w' => ∃ r : Int, Least a n x r ∧ e = .returned (.int .i64 r) ∧ ∃ q, w' = w.drewN q) := by
  have HT := Lib.hid h
  have n2 : (n : Int) ≤ 1000000 := by omega
  obtain ⟨ao, cap, h2, h3⟩ := h.rows
  have HI := Lib.hid h3
  have HC := Lib.hid h2
  clear h hn h2 h3
  go_enter Try.func13, Try.ntmps13
  go_wp2_with fail
  go_loopw [5, 6] (fun bv iv wr => ∃ (k : Nat) (r : Int), k ≤ n ∧ iv = .int .i64 (k : Nat) ∧ bv = .int .i64 r ∧ Least a k x r ∧ ∃ q, wr = w.drewN q) (fun _ iv _ => n - (intOf iv).toNat)
  case atStart => exact ⟨0, -1, Nat.zero_le _, rfl, rfl, .none fun i hi => absurd hi (Nat.not_lt_zero i), 0, rfl⟩
  case round =>
    obtain ⟨k, r, hk, rfl, rfl, hl, hq⟩ := hrel
    have hk2 : (k : Int) ≤ n := by omega
    have HQ := Lib.hid hq
    have HLE := Lib.hid hl
    have c0 : wr.cell? ⟨g, 1, none⟩ = some (.slice ao n cap) := by
      obtain ⟨q, e⟩ := hq
      rw [e]
      exact HC.out
    have HW : Hid (∀ ad, wr.cell? ad = w.cell? ad) := fun ad => by
      obtain ⟨q, e⟩ := hq
      rw [e]
      rfl
    clear hl hq
    by_cases hlt : k < n
    · have hlt2 : (k : Int) < n := by omega
      have HL := Lib.hid hlt
      obtain ⟨bb, off, rfl, hb, hc⟩ := HI.out (by omega)
      have c1 := (HW.out _).trans (hc k hlt).1
      have HCC := Lib.hid hc
      clear hb hc hlt
      obtain ⟨y, hy⟩ : ∃ y, a k = y := ⟨_, rfl⟩
      rw [hy] at c1
      have HY := Lib.hid hy
      clear hy
      by_cases hxy : x ≤ y
      · have g1 : decide (x ≤ y) = true := decide_eq_true hxy
        have HXY := Lib.hid hxy
        clear hxy
        by_cases hr : r < 0
        · have g2 : decide (r < 0) = true := decide_eq_true hr
          have HR : Hid (r = -1) := by
            have := HLE.out
            cases this with
            | here b hb h hl => omega
            | none h => rfl
          clear hr
          go_wp2_with fail
          go_quiet (fail)
          go_wp2_with fail
          go_roundw
          case rel => exact ⟨k + 1, k, HL.out, by go_num, rfl, by
              have h1 := HLE.out
              rw [HR.out] at h1
              exact h1.first (by rw [HY.out]; exact HXY.out), by
              obtain ⟨q, e⟩ := HQ.out
              exact ⟨q + nq, by rw [e, World.drewN_drewN]⟩⟩
          case measure => have := HL.out; simp [intOf]; omega
        · have g2 : decide (r < 0) = false := decide_eq_false hr
          obtain ⟨b, rfl, hbk⟩ : ∃ b : Nat, r = (b : Int) ∧ b < k := by
            have := HLE.out
            cases this with
            | here b hb h hl => exact ⟨b, rfl, hb⟩
            | none h => omega
          have g2' : decide ((b : Int) < 0) = false := g2
          have hb2 : (b : Int) < n := by omega
          have c2 := (HW.out _).trans (HCC.out b (by omega)).1
          obtain ⟨u, hu⟩ : ∃ u, a b = u := ⟨_, rfl⟩
          rw [hu] at c2
          have HU := Lib.hid hu
          clear hu hr hbk g2
          by_cases hyu : y < u
          · have g3 : decide (y < u) = true := decide_eq_true hyu
            have HYU := Lib.hid hyu
            clear hyu
            go_wp2_with fail
            go_quiet (fail)
            go_wp2_with fail
            go_roundw
            case rel => exact ⟨k + 1, k, HL.out, by go_num, rfl, HLE.out.new (by rw [HY.out]; exact HXY.out) (by rw [HY.out, HU.out]; exact HYU.out), by
                obtain ⟨q, e⟩ := HQ.out
                exact ⟨q + nq, by rw [e, World.drewN_drewN]⟩⟩
            case measure => have := HL.out; simp [intOf]; omega
          · have g3 : decide (y < u) = false := decide_eq_false hyu
            have HYU := Lib.hid hyu
            clear hyu
            go_wp2_with fail
            go_quiet (fail)
            go_wp2_with fail
            go_roundw
            case rel => exact ⟨k + 1, b, HL.out, by go_num, rfl, HLE.out.keep (by rw [HY.out, HU.out]; have := HYU.out; omega), by
                obtain ⟨q, e⟩ := HQ.out
                exact ⟨q + nq, by rw [e, World.drewN_drewN]⟩⟩
            case measure => have := HL.out; simp [intOf]; omega
      · have g1 : decide (x ≤ y) = false := decide_eq_false hxy
        have HXY := Lib.hid hxy
        clear hxy
        go_wp2_with fail
        go_quiet (fail)
        go_wp2_with fail
        go_roundw
        case rel => exact ⟨k + 1, r, HL.out, by go_num, rfl, HLE.out.skip (by rw [HY.out]; have := HXY.out; omega), by
            obtain ⟨q, e⟩ := HQ.out
            exact ⟨q + nq, by rw [e, World.drewN_drewN]⟩⟩
        case measure => have := HL.out; simp [intOf]; omega
    · obtain rfl : k = n := by omega
      clear hlt
      go_wp2_with fail
      go_ret
      exact ⟨r, HLE.out, rfl, HQ.out⟩
end Go.Proofs.Ytmepaeppkeaifaa
