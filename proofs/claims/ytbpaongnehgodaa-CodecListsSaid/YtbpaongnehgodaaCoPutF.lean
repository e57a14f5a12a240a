/- codec.Put, whole. -/
import Derived.Test.YtbpaongnehgodaaCoPut
namespace Go.Proofs.Ytbpaongnehgodaa
open Go.ChangeShapes Go.WideShapes Go.ChangeAt Go.RowKit
/-- What Put tells. -/
def cputV (c : Cm) : Value := if chkV c = 0 then .tuple #[txt (encL (putsL c)), .int .i64 0] else .tuple #[.string ⟨#[]⟩, .int .i64 (chkV c)]
set_option maxHeartbeats 4000000 in
theorem cput_any (c : Cm) (hc : c.In) (w : World) : Calls Try.prog 8 #[cmv c] w (Ret (cputV c) w) := by
  have HC := Lib.hid (check_any c hc)
  by_cases hz : chkV c = 0
  · have HV : Hid (cputV c = .tuple #[txt (encL (putsL c)), .int .i64 0]) := by show _ = _; unfold cputV; rw [if_pos hz]
    rw [hz] at HC
    have HH := Lib.hid (has_any c.k)
    rw [HV.out]
    clear HV hz
    obtain ⟨b, hb⟩ : ∃ b, hasB c.k = b := ⟨_, rfl⟩
    have HL : Hid (putsL c = (eachV (stP b) [c.k] c).2) := by show _ = _; unfold putsL; rw [hb]
    rw [hb] at HH
    rw [HL.out]
    have HE : Hid (∀ w1 : World, Below w.heap.size w w1 → w.heap.size < w1.heap.size → ∀ W, CB W w.heap.size c → PutI w w1.heap.size (w1.heap.size + 1 + 1) b 0 W [c.k] → _) := fun w1 hb hl W h1 h2 => each_any (put1_ok w w.heap.size w1.heap.size (w1.heap.size + 1 + 1) b (Nat.le_refl _) (by omega) (by omega) (by omega) (by omega)) c hc [c.k] W h1 h2
    have HX : Hid (∀ w1 : World, Below w.heap.size w w1 → w.heap.size < w1.heap.size → CB w1 w.heap.size c → CB (((w1.alloc (.cells #[.int .i64 b] 3)).alloc (.cells #[.int .i64 c.k] 2)).alloc (.cells #[.slice (some ⟨w1.heap.size + 1, 0, none⟩) 1 1] 46)) w.heap.size c ∧ PutI w w1.heap.size (w1.heap.size + 1 + 1) b 0 (((w1.alloc (.cells #[.int .i64 b] 3)).alloc (.cells #[.int .i64 c.k] 2)).alloc (.cells #[.slice (some ⟨w1.heap.size + 1, 0, none⟩) 1 1] 46)) [c.k]) := fun w1 hb hl hc' => by
      obtain ⟨x1, x2, x3, x4⟩ := boxes3 w1 (.cells #[.int .i64 b] 3) (.cells #[.int .i64 c.k] 2) (.cells #[.slice (some ⟨w1.heap.size + 1, 0, none⟩) 1 1] 46)
      refine ⟨(x4.block _ hl).trans hc', x1, ⟨_, x3, ?_⟩, hb.trans (x4.mono (by omega)), by simp, fun n hn => ?_⟩
      · refine World.ownsRow.alloc ?_ _
        have := World.ownsRow_lit (base := w.heap.size) (e := 2) (size := 1) (w1.alloc (.cells #[.int .i64 b] 3)) #[.int .i64 c.k] 1 (by simp; omega) (by decide) rfl
        rwa [World.size_alloc] at this
      · obtain rfl : n = c.k := by simpa using hn
        exact hc.1
    clear hb HL
    obtain ⟨C6, hL⟩ : ∃ C6, eachV (stP b) [c.k] c = C6 := ⟨_, rfl⟩
    rw [hL] at HE ⊢
    obtain ⟨L, hL2⟩ : ∃ L, C6.2 = L := ⟨_, rfl⟩
    rw [hL2] at HE ⊢
    clear hL hL2
    obtain ⟨is, his⟩ : ∃ b, isK c.k = b := ⟨_, rfl⟩
    rw [his] at HH
    clear his
    go_enter Try.func8, Try.ntmps8
    go_wp2_with fail
    refine (HC.out _).mono ?_
    rintro e w1 ⟨rfl, h1⟩
    have HB1 := Lib.hid (below_of_box h1)
    have HK := box_of_below h1
    obtain ⟨k0, _⟩ := CB.cells (c := c) HK
    have hlt : w.heap.size < w1.heap.size := lt_of_block HK
    have k9 : ∀ o, (w1.alloc o).cell? ⟨w.heap.size, 0, none⟩ = some (.int .i64 c.k) := fun o => by
      rw [← k0]
      exact Below.cell ((Below.refl _ _).alloc (Nat.le_refl _) _) hlt
    have HKH := Lib.hid HK
    have HHL := Lib.hid hlt
    clear h1 HK hlt
    go_wp2_with fail
    refine (HH.out _).mono ?_
    rintro e w2 ⟨rfl, rfl⟩
    go_wp2_with fail
    refine (HE.out w1 HB1.out HHL.out _ (HX.out w1 HB1.out HHL.out HKH.out).1 (HX.out w1 HB1.out HHL.out HKH.out).2).mono ?_
    rintro e w2 ⟨rfl, i2, b2⟩
    obtain ⟨v, hv, hown⟩ := i2.here
    obtain ⟨ao, cap, rfl⟩ : ∃ ao cap, v = .slice ao L.length cap := by
      rcases hown.2 with ⟨rfl, h0⟩ | ⟨g, cap, cur, rfl, _⟩
      · exact ⟨none, 0, by rw [h0]⟩
      · exact ⟨_, _, rfl⟩
    have kv := one_cell hv
    have HA := Lib.hid (putsL_all L i2.len i2.ran _ ao cap w2 hown)
    have HB2 := Lib.hid i2.below
    clear i2 b2 hv hown
    go_wp2_with fail
    refine HA.out.mono ?_
    rintro e w3 ⟨rfl, h3⟩
    have HB3 : Hid (Below w.heap.size w w3) := HB2.out.trans (h3.mono HB2.out.size)
    clear h3
    go_wp2_with fail
    go_ret2
    exact ⟨rfl, HB3.out⟩
  · have HV : Hid (cputV c = .tuple #[.string ⟨#[]⟩, .int .i64 (chkV c)]) := by show _ = _; unfold cputV; rw [if_neg hz]
    rw [HV.out]
    obtain ⟨x, hx⟩ : ∃ x, chkV c = x := ⟨_, rfl⟩
    rw [hx] at HC hz ⊢
    have d1 : (x == 0) = false := by simp [hz]
    have d2 : (x != 0) = true := by simp [hz]
    clear HV hz hx hc
    go_enter Try.func8, Try.ntmps8
    go_wp2_with fail
    refine (HC.out _).mono ?_
    rintro e w1 ⟨rfl, h1⟩
    have HB1 := Lib.hid (below_of_box h1)
    clear h1
    go_wp2_with fail
    go_ret2
    exact ⟨rfl, HB1.out⟩
end Go.Proofs.Ytbpaongnehgodaa
