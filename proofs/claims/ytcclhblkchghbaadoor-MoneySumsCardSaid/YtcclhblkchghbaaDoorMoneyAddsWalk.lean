/- The law MoneyAdds answers true, for every two amounts. -/
import Derived.Test.YtcclhblkchghbaaDoorMoneyAwake
namespace Go.Proofs.YtcclhblkchghbaaDoor
open Go.ChangeShapes Go.WideShapes Go.ChangeAt Go.RowKit
theorem amt_form (n : Int) : ∃ (x e : Int), amt n = .tuple #[.int .i64 x, .int .i64 e] := by
  unfold amt
  split
  · exact ⟨_, _, rfl⟩
  · exact ⟨_, _, rfl⟩
/-- Two amounts. -/
def two (x y : Int) (i : Nat) : Int := if i = 0 then x else y
theorem two_cells (x y : Int) (w : World) : ∀ i, i < 2 → (w.alloc (.cells #[.int .i64 x, .int .i64 y] 2)).cell? ⟨w.heap.size, 0 + i, none⟩ = some (.int .i64 (two x y i)) := fun i hi => by
  rw [World.cell?_alloc_new, Nat.zero_add]
  rcases i with _ | _ | i
  · rfl
  · rfl
  · omega
theorem two_bd (x y : Int) (hx : -9223372036854775808 ≤ x ∧ x ≤ 9223372036854775807) (hy : -9223372036854775808 ≤ y ∧ y ≤ 9223372036854775807) :
    ∀ i, i < 2 → -9223372036854775808 ≤ two x y i ∧ two x y i ≤ 9223372036854775807 := fun i _ => by
  unfold two
  split
  · exact hx
  · exact hy
theorem not_i64 (b : Int) (hb : -9223372036854775808 ≤ b ∧ b ≤ 9223372036854775807) : bits .xor .i64 (-1) b = -b - 1 := by
  have h1 : (BitVec.ofInt 64 (-1)) = BitVec.allOnes 64 := by decide
  have h2 : ((BitVec.ofInt 64 b).toNat : Int) = b % 18446744073709551616 := by
    rw [BitVec.toNat_ofInt]
    omega
  show IntKind.i64.wrap ((BitVec.ofInt 64 (-1) ^^^ BitVec.ofInt 64 b).toNat : Int) = _
  rw [h1, BitVec.allOnes_xor, BitVec.toNat_not]
  have h3 : ((2 ^ 64 - 1 - (BitVec.ofInt 64 b).toNat : Nat) : Int) = 18446744073709551615 - b % 18446744073709551616 := by
    have := (BitVec.ofInt 64 b).isLt
    omega
  rw [h3]
  simp only [IntKind.wrap, IntKind.bits, IntKind.signed]
  simp
  omega
theorem ref_two (a b : Int) (ha : -9223372036854775808 ≤ a ∧ a ≤ 9223372036854775807) (hb : -9223372036854775808 ≤ b ∧ b ≤ 9223372036854775807) (w : World) (n : Nat) (hn : w.heap.size = n) :
    Calls Tryd.prog 9 #[.slice (some ⟨n, 0, none⟩) 2 2] (w.alloc (.cells #[.int .i64 a, .int .i64 b] 2)) (RetS (amt (a + b)) (w.alloc (.cells #[.int .i64 a, .int .i64 b] 2))) := by
  subst hn
  have h := refsum_any (two a b) 2 2 w.heap.size 0 (by omega) (two_bd a b ha hb) _ (two_cells a b w)
  rw [show sumTo (two a b) 2 = a + b from by simp [sumTo, two]] at h
  exact h
theorem ref_three (a b : Int) (ha : -9223372036854775808 ≤ a ∧ a ≤ 9223372036854775807) (hb : -9223372036854775808 ≤ b ∧ b ≤ 9223372036854775807) (w : World) (n : Nat) (hn : w.heap.size = n) :
    Calls Tryd.prog 9 #[.slice (some ⟨n, 0, none⟩) 3 3] (w.alloc (.cells #[.int .i64 a, .int .i64 1, .int .i64 (-b - 1)] 2)) (RetS (amt (a - b)) (w.alloc (.cells #[.int .i64 a, .int .i64 1, .int .i64 (-b - 1)] 2))) := by
  subst hn
  have h := refsum_any (three a 1 (-b - 1)) 3 3 w.heap.size 0 (by omega) (three_bd _ _ _ ha (by omega) (by omega)) _ (three_cells a 1 (-b - 1) w)
  rw [show sumTo (three a 1 (-b - 1)) 3 = a - b from by simp [sumTo, three]; omega] at h
  exact h
set_option maxRecDepth 100000 in
set_option maxHeartbeats 2000000 in
theorem adds_walk (a b : Int) (ha : -9223372036854775808 ≤ a ∧ a ≤ 9223372036854775807) (hb : -9223372036854775808 ≤ b ∧ b ≤ 9223372036854775807) (w : World) (ht : Tab w) :
    Calls Tryd.prog 3 #[.int .i64 a, .int .i64 b] w (Ret (.bool true) w) := by
  obtain ⟨s, e, hs⟩ := amt_form (a + b)
  have HA := Lib.hid (fun (w : World) => add_any a b ha hb w)
  have HS := Lib.hid (fun (w : World) => sub_any a b ha hb w)
  have H2 := Lib.hid (fun (w : World) (n : Nat) (hn : w.heap.size = n) => ref_two a b ha hb w n hn)
  have H3 := Lib.hid (fun (w : World) (n : Nat) (hn : w.heap.size = n) => ref_three a b ha hb w n hn)
  have hq := not_i64 b hb
  have HO := Lib.hid (fun (w : World) => over_any a b ha hb w)
  have HL := Lib.hid (fun (w : World) => least_any a b w)
  have HX := Lib.hid (fun (w : World) h => awake_any w h)
  have HT := Lib.hid ht
  rw [hs] at HA H2
  by_cases h : a ≤ b
  · obtain ⟨d, g, hd⟩ := amt_form (a - b)
    rw [hd] at HS H3
    rw [show overN a b = 0 from if_pos h] at HO
    rw [if_pos h] at HL
    clear hs hd ha hb ht
    go_enter Tryd.func3, Tryd.ntmps3
    go_wp2_with fail
    refine (HA.out _).mono ?_
    rintro x w1 ⟨rfl, rfl⟩
    go_wp2_with fail
    ((with_reducible refine (H2.out _ _ rfl).mono ?_); rintro x w1 ⟨rfl, rfl⟩)
    go_wp2_with fail
    refine (HS.out _).mono ?_
    rintro x w1 ⟨rfl, rfl⟩
    go_wp2_with fail
    with_reducible refine (H3.out _ _ ?_).mono ?_
    · simp
    rintro x w1 ⟨rfl, rfl⟩
    go_wp2_with fail
    refine (HO.out _).mono ?_
    rintro x w1 ⟨rfl, rfl⟩
    go_wp2_with fail
    refine (HX.out _ ?_).mono ?_
    · exact HT.out.next (by go_grown)
    rintro x w1 ⟨rfl, h1⟩
    have H1 := Lib.hid h1
    clear h1
    go_wp2_with fail
    refine (HL.out _).mono ?_
    rintro x w2 ⟨rfl, rfl⟩
    go_wp2
    go_ret
    exact ⟨rfl, (((Below.refl _ _).alloc (Nat.le_refl _) _).alloc (by simp) _).trans (H1.out.mono (by simp; omega))⟩
  · rw [if_neg h] at HL
    have h' : ¬ a ≤ b := h
    by_cases h2 : a - b ≤ 9223372036854775807
    · rw [amt_in (by omega)] at HS H3
      rw [show overN a b = a - b from by rw [overN, if_neg h, if_pos h2]] at HO
      generalize a - b = d at *
      clear hs ha hb ht h2
      go_enter Tryd.func3, Tryd.ntmps3
      go_wp2_with fail
      refine (HA.out _).mono ?_
      rintro x w1 ⟨rfl, rfl⟩
      go_wp2_with fail
      ((with_reducible refine (H2.out _ _ rfl).mono ?_); rintro x w1 ⟨rfl, rfl⟩)
      go_wp2_with fail
      refine (HS.out _).mono ?_
      rintro x w1 ⟨rfl, rfl⟩
      go_wp2_with fail
      with_reducible refine (H3.out _ _ ?_).mono ?_
      · simp
      rintro x w1 ⟨rfl, rfl⟩
      go_wp2_with fail
      refine (HO.out _).mono ?_
      rintro x w1 ⟨rfl, rfl⟩
      go_wp2_with fail
      refine (HX.out _ ?_).mono ?_
      · exact HT.out.next (by go_grown)
      rintro x w1 ⟨rfl, h1⟩
      have H1 := Lib.hid h1
      clear h1
      go_wp2_with fail
      refine (HL.out _).mono ?_
      rintro x w2 ⟨rfl, rfl⟩
      go_wp2
      go_ret
      exact ⟨rfl, (((Below.refl _ _).alloc (Nat.le_refl _) _).alloc (by simp) _).trans (H1.out.mono (by simp; omega))⟩
    · rw [amt_out (by omega)] at HS H3
      rw [show overN a b = 9223372036854775807 from by rw [overN, if_neg h, if_neg h2]] at HO
      clear hs ha hb ht h2
      go_enter Tryd.func3, Tryd.ntmps3
      go_wp2_with fail
      refine (HA.out _).mono ?_
      rintro x w1 ⟨rfl, rfl⟩
      go_wp2_with fail
      ((with_reducible refine (H2.out _ _ rfl).mono ?_); rintro x w1 ⟨rfl, rfl⟩)
      go_wp2_with fail
      refine (HS.out _).mono ?_
      rintro x w1 ⟨rfl, rfl⟩
      go_wp2_with fail
      with_reducible refine (H3.out _ _ ?_).mono ?_
      · simp
      rintro x w1 ⟨rfl, rfl⟩
      go_wp2_with fail
      refine (HO.out _).mono ?_
      rintro x w1 ⟨rfl, rfl⟩
      go_wp2_with fail
      refine (HX.out _ ?_).mono ?_
      · exact HT.out.next (by go_grown)
      rintro x w1 ⟨rfl, h1⟩
      have H1 := Lib.hid h1
      clear h1
      go_wp2_with fail
      refine (HL.out _).mono ?_
      rintro x w2 ⟨rfl, rfl⟩
      go_wp2
      go_ret
      exact ⟨rfl, (((Below.refl _ _).alloc (Nat.le_refl _) _).alloc (by simp) _).trans (H1.out.mono (by simp; omega))⟩
end Go.Proofs.YtcclhblkchghbaaDoor
