/- DiskKeeps, walked (made by gen_dkeep.py). -/
import Derived.Test.YthmbpoldjddheaaDskKeepM
namespace Go.Proofs.Ythmbpoldjddheaa
open Go.ChangeShapes Go.WideShapes Go.ChangeAt Go.RowKit
set_option maxHeartbeats 4000000 in
set_option maxRecDepth 100000 in
theorem keeps_long (ao : Option Addr) (n cap : Nat) (hn : n ≤ 9223372036854775807) (hl : 40 < n) (fu : Nat) (w : World) :
    Calls Try.prog 6 #[.slice ao n cap, .int .u8 fu] w (Ret (.bool true) w) := by
  have HA := Lib.hid (awake9_any w)
  have d1 : decide (40 < (n : Int)) = true := decide_eq_true (by omega)
  have d2 := decide_eq_true hl
  clear hl hn
  go_enter Try.func6, Try.ntmps6
  go_wp2_with fail
  refine HA.out.mono ?_
  rintro e w1 ⟨rfl, h1⟩
  go_wp2
  go_ret
  exact ⟨rfl, h1⟩
theorem below_four_block {X b : Nat} (hb : b < X) (w : World) (x y z u : Value) : ((((w.setCell ⟨X, 0, none⟩ x).setCell ⟨X, 1, none⟩ y).setCell ⟨X, 2, none⟩ z).setCell ⟨X, 3, none⟩ u).heap[b]? = w.heap[b]? :=
  (Below.heap_setCell _ _ _ _ (by simp; omega)).trans ((Below.heap_setCell _ _ _ _ (by simp; omega)).trans ((Below.heap_setCell _ _ _ _ (by simp; omega)).trans (Below.heap_setCell _ _ _ _ (by simp; omega))))
/-- Where the loop stands. -/
def At (w wr : World) (n i : Nat) (sure all : ByteArray) : Prop := ∃ s t f d, Keeps i s t f sure all ∧ DB wr w.heap.size s t f d ∧ Below w.heap.size w wr ∧ i ≤ n
set_option maxHeartbeats 8000000 in
set_option maxRecDepth 100000 in
theorem keeps_any (ao : Option Addr) (n cap : Nat) (hn : n ≤ 40) (k : Nat → Int) (x : Nat → ByteArray) (y : Nat → Int) (hxs : ∀ i, i < n → (x i).size ≤ 9223372036854775807) (fu : Nat) (hfu : fu ≤ 255) (w : World) (h : DActs w ao n k x y) :
    Calls Try.prog 6 #[.slice ao n cap, .int .u8 fu] w (Ret (.bool true) w) := by
  have HA := Lib.hid awake9_any
  have n2 : (n : Int) ≤ 40 := by omega
  have d1 : decide (40 < (n : Int)) = false := decide_eq_false (by omega)
  have d2 : decide (40 < n) = false := decide_eq_false (by omega)
  have HI := Lib.hid h
  have HXS := Lib.hid hxs
  have HN := Lib.hid hn
  have gf : IntKind.i64.wrap (fu : Int) = (fu : Int) := wrap_i64 (by omega) (by omega)
  have gg : IntKind.i64.wrap ((fu : Int) - 1) = (fu : Int) - 1 := wrap_i64 (by omega) (by omega)
  obtain ⟨f0, hf0⟩ : ∃ f0, (fu : Int) - 1 = f0 := ⟨_, rfl⟩
  have HK0 : Hid (Keeps 0 ⟨#[]⟩ ⟨#[]⟩ f0 ⟨#[]⟩ ⟨#[]⟩) := ⟨rfl, Nat.le_refl _, rfl, Nat.le_refl _, by omega⟩
  rw [hf0] at gg
  clear hn hxs h hfu
  go_enter Try.func6, Try.ntmps6
  go_wp2_with fail
  go_loopw [6, 7, 8] (fun sv av iv wr => ∃ (i : Nat) (sure all : ByteArray), iv = .int .i64 i ∧ sv = .string sure ∧ av = .string all ∧ Hid (At w wr n i sure all)) (fun _ _ iv _ => n - (intOf iv).toNat)
  case atStart => exact ⟨0, ⟨#[]⟩, ⟨#[]⟩, rfl, rfl, rfl, ⟨#[]⟩, ⟨#[]⟩, f0, false, HK0.out, heap_alloc_new _ _, (Below.refl _ _).alloc (Nat.le_refl _) _, Nat.zero_le _⟩
  case round =>
    clear HK0 gf gg hf0
    obtain ⟨i, sure, all, rfl, rfl, rfl, HAT⟩ := hrel
    obtain ⟨s, t, f, d, hk, hdb, hbw, hi⟩ := HAT.out
    have HK := Lib.hid hk
    have HD := Lib.hid hdb
    have HB := Lib.hid hbw
    have hi2 : (i : Int) ≤ n := by omega
    rcases (show ¬ i < n ∨ i < n by omega) with hlt | hlt
    · obtain rfl : i = n := by omega
      clear hk hdb hbw hi hi2 hlt HAT
      go_wp2_with fail
      refine (HA.out _).mono ?_
      rintro e w2 ⟨rfl, h2⟩
      have HB2 := Lib.hid (HB.out.trans (h2.mono HB.out.size))
      clear h2
      go_wp2_with fail
      go_ret
      exact ⟨rfl, HB2.out⟩
    have hlt2 : (i : Int) < n := by omega
    have hi40 : i ≤ 40 := by have := HN.out; omega
    have HSM : Hid (Small s t) := hk.small hi40
    obtain ⟨b, off, rfl, hbs, hc⟩ := (HI.out.below hbw) (by omega)
    obtain ⟨c0, c1, c2⟩ := hc i hlt
    have hbX : b < w.heap.size := by obtain ⟨b', off', e, h', _⟩ := HI.out (by omega); injection e with e; injection e with e1 e2; omega
    have HXZ := Lib.hid (HXS.out i hlt)
    obtain ⟨kk, hkk⟩ : ∃ q, k i = q := ⟨_, rfl⟩
    obtain ⟨xx, hxx⟩ : ∃ q, x i = q := ⟨_, rfl⟩
    obtain ⟨yy, hyy⟩ : ∃ q, y i = q := ⟨_, rfl⟩
    rw [hkk] at c0
    rw [hxx] at c1 HXZ
    rw [hyy] at c2
    have HL := Lib.hid hlt
    have HBX := Lib.hid hbX
    have HBW : Hid (b < wr.heap.size) := hbs
    clear hk hbw hi hc hkk hxx hyy hbs hbX hlt hi40 HAT
    by_cases hbig : 50 < xx.size
    · have d3 := decide_eq_true hbig
      have d4 : decide (50 < (xx.size : Int)) = true := decide_eq_true (by omega)
      clear hbig
      go_wp2_with fail
      refine (HA.out _).mono ?_
      rintro e w2 ⟨rfl, h2⟩
      have HB2 := Lib.hid (HB.out.trans (h2.mono HB.out.size))
      clear h2
      go_wp2_with fail
      go_ret
      exact ⟨rfl, HB2.out⟩
    have d3 := decide_eq_false hbig
    have d4 : decide (50 < (xx.size : Int)) = false := decide_eq_false (by omega)
    have HX50 : Hid (xx.size ≤ 50) := by show _ ≤ _; omega
    clear hbig
    obtain ⟨k0, k1, k2, k3⟩ := hdb.cells
    have j0 := hdb.free 0
    have j1 := hdb.free 1
    have j2 := hdb.free 2
    have j3 := hdb.free 3
    clear hdb
    by_cases ka : kk = 0
    · subst ka
      cases d with
      | true =>
        have HW := Lib.hid (fun W => dwrite_any s t f true HSM.out (by have := HK.out.fuse; omega) xx (by have := HX50.out; omega) W)
        rw [opV_16 (by have := HK.out.fuse; omega)] at HW
        go_wp2_with fail
        go_region_law (first | (go_simp; go_at_call 25; refine (HW.out _).mono ?_; rintro e w2 ⟨rfl, h2⟩; (have g2 : Below wr.heap.size wr w2 := (Below.refl _ _).drew.trans h2); (have HD2 := Lib.hid (keep_block' HD.out g2)); (have HB2 := Lib.hid (HB.out.trans (g2.mono HB.out.size))); (have HL2 := Lib.hid g2); obtain ⟨m0, m1, m2, m3⟩ := four_read HD2.out; (have l0 := four_free HD2.out 0); (have l1 := four_free HD2.out 1); (have l2 := four_free HD2.out 2); (have l3 := four_free HD2.out 3); clear h2 g2))
        all_goals
          have HD3 := Lib.hid (four_set HD2.out (.string s) (.string t) (.int .i64 f) (.bool true))
          have HB3 := Lib.hid (below_four HB2.out (Nat.le_refl _) (.string s) (.string t) (.int .i64 f) (.bool true))
          obtain ⟨r0, r1, r2, r3⟩ := four_read HD3.out
          have hc1 := (HL2.out.cell (by exact HBW.out)).trans c1
          have hc1' := (World.cell?_of_block (below_four_block HBX.out w2 (.string s) (.string t) (.int .i64 f) (.bool true))).trans hc1
          clear m0 m1 m2 m3 l0 l1 l2 l3 HD2 HB2 HL2 hc1
          generalize (((w2.setCell ⟨w.heap.size, 0, none⟩ (.string s)).setCell ⟨w.heap.size, 1, none⟩ (.string t)).setCell ⟨w.heap.size, 2, none⟩ (.int .i64 f)).setCell ⟨w.heap.size, 3, none⟩ (.bool true) = w3 at *
          clear k0 k1 k2 k3 j0 j1 j2 j3 c0 c1 c2
          have HKN := Lib.hid HK.out.same
          have HS3 : Hid (Small s t) := HKN.out.small (by have := HL.out; have := HN.out; omega)
          have HY : Hid (∀ W, Calls Try.prog 33 #[.agg #[.string s, .string t, .int .i64 f, .bool true]] W (Ret (.string all) W)) := fun W => by
            have := dbytes_any s t f true HS3.out W
            rwa [← HKN.out.hall] at this
          go_wp2_with fail
          refine (HY.out _).mono ?_
          rintro e w4 ⟨rfl, h4⟩
          have HD4 := Lib.hid (keep_block' HD3.out h4)
          have HB4 := Lib.hid (HB3.out.trans (h4.mono HB3.out.size))
          obtain ⟨s0, s1, s2, s3⟩ := four_read HD4.out
          have e1 := HKN.out.le
          have e2 : decide ((s.size : Int) < (sure.size : Int)) = false := decide_eq_false (by omega)
          have e3 : decide (s.size < sure.size) = false := decide_eq_false (by omega)
          have e4 : (sure.size : Int) ≤ (s.size : Int) := by omega
          have e5 := HKN.out.hpre
          clear h4 r0 r1 r2 r3 HD3 HB3 HY
          go_wp2_with fail
          go_roundw
          case rel => exact ⟨i + 1, _, _, by go_num, rfl, rfl, s, t, f, true, HKN.out, HD4.out, HB4.out, HL.out⟩
          case measure => have := HL.out; simp [intOf]; omega
      | false =>
        have HW := Lib.hid (fun W => dwrite_any s t f false HSM.out (by have := HK.out.fuse; omega) xx (by have := HX50.out; omega) W)
        rw [opV_wr HK.out.fuse.1] at HW
        have HKN := Lib.hid (HK.out.write HX50.out)
        have hal : all.size ≤ 4000 := by have := HK.out.hall; have := HK.out.size; have := HL.out; have := HN.out; subst all; rw [ByteArray.size_append]; omega
        have hadd : ∀ W, (Op.stringOp .add all xx).run Try.prog W = .ok (.string (all ++ xx)) W := fun W => run_string_add W all xx (by omega) (by have := HX50.out; omega)
        obtain ⟨T, hT⟩ : ∃ T, t ++ xx = T := ⟨_, rfl⟩
        obtain ⟨F, hF⟩ : ∃ F, gfu f = F := ⟨_, rfl⟩
        obtain ⟨D, hD⟩ : ∃ D, decide (f = 0) = D := ⟨_, rfl⟩
        obtain ⟨E, hE⟩ : ∃ E, (if f = 0 then (16 : Int) else 0) = E := ⟨_, rfl⟩
        obtain ⟨AL, hAL⟩ : ∃ AL, all ++ xx = AL := ⟨_, rfl⟩
        rw [hT, hF, hD, hE] at HW
        rw [hT, hF, hAL] at HKN
        rw [hAL] at hadd
        clear hT hF hD hE hAL hal
        go_wp2_with fail
        go_region_law (first | (go_simp; go_at_call 25; refine (HW.out _).mono ?_; rintro e w2 ⟨rfl, h2⟩; (have g2 : Below wr.heap.size wr w2 := (Below.refl _ _).drew.trans h2); (have HD2 := Lib.hid (keep_block' HD.out g2)); (have HB2 := Lib.hid (HB.out.trans (g2.mono HB.out.size))); (have HL2 := Lib.hid g2); obtain ⟨m0, m1, m2, m3⟩ := four_read HD2.out; (have l0 := four_free HD2.out 0); (have l1 := four_free HD2.out 1); (have l2 := four_free HD2.out 2); (have l3 := four_free HD2.out 3); clear h2 g2))
        all_goals
          have HD3 := Lib.hid (four_set HD2.out (.string s) (.string T) (.int .i64 F) (.bool D))
          have HB3 := Lib.hid (below_four HB2.out (Nat.le_refl _) (.string s) (.string T) (.int .i64 F) (.bool D))
          obtain ⟨r0, r1, r2, r3⟩ := four_read HD3.out
          have hc1 := (HL2.out.cell (by exact HBW.out)).trans c1
          have hc1' := (World.cell?_of_block (below_four_block HBX.out w2 (.string s) (.string T) (.int .i64 F) (.bool D))).trans hc1
          clear m0 m1 m2 m3 l0 l1 l2 l3 HD2 HB2 HL2 hc1
          generalize (((w2.setCell ⟨w.heap.size, 0, none⟩ (.string s)).setCell ⟨w.heap.size, 1, none⟩ (.string T)).setCell ⟨w.heap.size, 2, none⟩ (.int .i64 F)).setCell ⟨w.heap.size, 3, none⟩ (.bool D) = w3 at *
          clear k0 k1 k2 k3 j0 j1 j2 j3 c0 c1 c2
          have HS3 : Hid (Small s T) := HKN.out.small (by have := HL.out; have := HN.out; omega)
          have HY : Hid (∀ W, Calls Try.prog 33 #[.agg #[.string s, .string T, .int .i64 F, .bool D]] W (Ret (.string AL) W)) := fun W => by
            have := dbytes_any s T F D HS3.out W
            rwa [← HKN.out.hall] at this
          go_wp2_with fail
          refine (HY.out _).mono ?_
          rintro e w4 ⟨rfl, h4⟩
          have HD4 := Lib.hid (keep_block' HD3.out h4)
          have HB4 := Lib.hid (HB3.out.trans (h4.mono HB3.out.size))
          obtain ⟨s0, s1, s2, s3⟩ := four_read HD4.out
          have e1 := HKN.out.le
          have e2 : decide ((s.size : Int) < (sure.size : Int)) = false := decide_eq_false (by omega)
          have e3 : decide (s.size < sure.size) = false := decide_eq_false (by omega)
          have e4 : (sure.size : Int) ≤ (s.size : Int) := by omega
          have e5 := HKN.out.hpre
          clear h4 r0 r1 r2 r3 HD3 HB3 HY
          go_wp2_with fail
          go_roundw
          case rel => exact ⟨i + 1, _, _, by go_num, rfl, rfl, s, T, F, D, HKN.out, HD4.out, HB4.out, HL.out⟩
          case measure => have := HL.out; simp [intOf]; omega
    have da : (kk == 0) = false := by rw [beq_eq_false_iff_ne]; exact ka
    by_cases kb : kk = 1
    · subst kb
      cases d with
      | true =>
        have HW := Lib.hid (fun W => dsync_any s t f true HSM.out (by have := HK.out.fuse; omega) W)
        rw [opV_16 (by have := HK.out.fuse; omega)] at HW
        have HKN := Lib.hid HK.out.same
        go_wp2_with fail
        refine (HW.out _).mono ?_
        rintro e w2 ⟨rfl, h2⟩
        have HD2 := Lib.hid (keep_block' HD.out h2)
        have HB2 := Lib.hid (HB.out.trans (h2.mono HB.out.size))
        obtain ⟨m0, m1, m2, m3⟩ := four_read HD2.out
        have l0 := four_free HD2.out 0
        have l1 := four_free HD2.out 1
        have l2 := four_free HD2.out 2
        have l3 := four_free HD2.out 3
        have HD3 := Lib.hid (four_set HD2.out (.string s) (.string t) (.int .i64 f) (.bool true))
        have HB3 := Lib.hid (below_four HB2.out (Nat.le_refl _) (.string s) (.string t) (.int .i64 f) (.bool true))
        obtain ⟨r0, r1, r2, r3⟩ := four_read HD3.out
        clear h2 HD2 HB2 k0 k1 k2 k3 j0 j1 j2 j3 c0 c1 c2
        have HS3 : Hid (Small s t) := HKN.out.small (by have := HL.out; have := HN.out; omega)
        have HY : Hid (∀ W, Calls Try.prog 33 #[.agg #[.string s, .string t, .int .i64 f, .bool true]] W (Ret (.string all) W)) := fun W => by
          have := dbytes_any s t f true HS3.out W
          rwa [← HKN.out.hall] at this
        go_wp2_with fail
        refine (HY.out _).mono ?_
        rintro e w4 ⟨rfl, h4⟩
        have HD4 := Lib.hid (keep_block' HD3.out h4)
        have HB4 := Lib.hid (HB3.out.trans (h4.mono HB3.out.size))
        obtain ⟨s0, s1, s2, s3⟩ := four_read HD4.out
        have e1 := HKN.out.le
        have e2 : decide ((s.size : Int) < (sure.size : Int)) = false := decide_eq_false (by omega)
        have e3 : decide (s.size < sure.size) = false := decide_eq_false (by omega)
        have e4 : (sure.size : Int) ≤ (s.size : Int) := by omega
        have e5 := HKN.out.hpre
        clear h4 r0 r1 r2 r3 HD3 HB3 HY
        go_wp2_with fail
        go_roundw
        case rel => exact ⟨i + 1, _, _, by go_num, rfl, rfl, s, t, f, true, HKN.out, HD4.out, HB4.out, HL.out⟩
        case measure => have := HL.out; simp [intOf]; omega
      | false =>
        by_cases hz : f = 0
        · subst hz
          have HW := Lib.hid (fun W => dsync_any s t 0 false HSM.out (by omega) W)
          rw [opV_0] at HW
          have HKN := Lib.hid HK.out.same
          go_wp2_with fail
          refine (HW.out _).mono ?_
          rintro e w2 ⟨rfl, h2⟩
          have HD2 := Lib.hid (keep_block' HD.out h2)
          have HB2 := Lib.hid (HB.out.trans (h2.mono HB.out.size))
          obtain ⟨m0, m1, m2, m3⟩ := four_read HD2.out
          have l0 := four_free HD2.out 0
          have l1 := four_free HD2.out 1
          have l2 := four_free HD2.out 2
          have l3 := four_free HD2.out 3
          have HD3 := Lib.hid (four_set HD2.out (.string s) (.string t) (.int .i64 0) (.bool true))
          have HB3 := Lib.hid (below_four HB2.out (Nat.le_refl _) (.string s) (.string t) (.int .i64 0) (.bool true))
          obtain ⟨r0, r1, r2, r3⟩ := four_read HD3.out
          clear h2 HD2 HB2 k0 k1 k2 k3 j0 j1 j2 j3 c0 c1 c2
          have HS3 : Hid (Small s t) := HKN.out.small (by have := HL.out; have := HN.out; omega)
          have HY : Hid (∀ W, Calls Try.prog 33 #[.agg #[.string s, .string t, .int .i64 0, .bool true]] W (Ret (.string all) W)) := fun W => by
            have := dbytes_any s t 0 true HS3.out W
            rwa [← HKN.out.hall] at this
          go_wp2_with fail
          refine (HY.out _).mono ?_
          rintro e w4 ⟨rfl, h4⟩
          have HD4 := Lib.hid (keep_block' HD3.out h4)
          have HB4 := Lib.hid (HB3.out.trans (h4.mono HB3.out.size))
          obtain ⟨s0, s1, s2, s3⟩ := four_read HD4.out
          have e1 := HKN.out.le
          have e2 : decide ((s.size : Int) < (sure.size : Int)) = false := decide_eq_false (by omega)
          have e3 : decide (s.size < sure.size) = false := decide_eq_false (by omega)
          have e4 : (sure.size : Int) ≤ (s.size : Int) := by omega
          have e5 := HKN.out.hpre
          clear h4 r0 r1 r2 r3 HD3 HB3 HY
          go_wp2_with fail
          go_roundw
          case rel => exact ⟨i + 1, _, _, by go_num, rfl, rfl, s, t, 0, true, HKN.out, HD4.out, HB4.out, HL.out⟩
          case measure => have := HL.out; simp [intOf]; omega
        · skip
          have HW := Lib.hid (fun W => dsync_any s t f false HSM.out (by have := HK.out.fuse; omega) W)
          rw [opV_k (by have := HK.out.fuse; omega) hz] at HW
          have HKN := Lib.hid HK.out.sync
          obtain ⟨S, hS⟩ : ∃ S, s ++ t = S := ⟨_, rfl⟩
          obtain ⟨F, hF⟩ : ∃ F, gfu f = F := ⟨_, rfl⟩
          rw [hS, hF] at HW HKN
          clear hS hF hz
          go_wp2_with fail
          refine (HW.out _).mono ?_
          rintro e w2 ⟨rfl, h2⟩
          have HD2 := Lib.hid (keep_block' HD.out h2)
          have HB2 := Lib.hid (HB.out.trans (h2.mono HB.out.size))
          obtain ⟨m0, m1, m2, m3⟩ := four_read HD2.out
          have l0 := four_free HD2.out 0
          have l1 := four_free HD2.out 1
          have l2 := four_free HD2.out 2
          have l3 := four_free HD2.out 3
          have HD3 := Lib.hid (four_set HD2.out (.string S) (.string ⟨#[]⟩) (.int .i64 F) (.bool false))
          have HB3 := Lib.hid (below_four HB2.out (Nat.le_refl _) (.string S) (.string ⟨#[]⟩) (.int .i64 F) (.bool false))
          obtain ⟨r0, r1, r2, r3⟩ := four_read HD3.out
          clear h2 HD2 HB2 k0 k1 k2 k3 j0 j1 j2 j3 c0 c1 c2
          have HS3 : Hid (Small S ⟨#[]⟩) := HKN.out.small (by have := HL.out; have := HN.out; omega)
          have HY : Hid (∀ W, Calls Try.prog 33 #[.agg #[.string S, .string ⟨#[]⟩, .int .i64 F, .bool false]] W (Ret (.string all) W)) := fun W => by
            have := dbytes_any S ⟨#[]⟩ F false HS3.out W
            rwa [← HKN.out.hall] at this
          go_wp2_with fail
          refine (HY.out _).mono ?_
          rintro e w4 ⟨rfl, h4⟩
          have HD4 := Lib.hid (keep_block' HD3.out h4)
          have HB4 := Lib.hid (HB3.out.trans (h4.mono HB3.out.size))
          obtain ⟨s0, s1, s2, s3⟩ := four_read HD4.out
          have e1 := HKN.out.le
          have e2 : decide ((S.size : Int) < (all.size : Int)) = false := decide_eq_false (by omega)
          have e3 : decide (S.size < all.size) = false := decide_eq_false (by omega)
          have e4 : (all.size : Int) ≤ (S.size : Int) := by omega
          have e5 := HKN.out.hpre
          clear h4 r0 r1 r2 r3 HD3 HB3 HY
          go_wp2_with fail
          go_roundw
          case rel => exact ⟨i + 1, _, _, by go_num, rfl, rfl, S, ⟨#[]⟩, F, false, HKN.out, HD4.out, HB4.out, HL.out⟩
          case measure => have := HL.out; simp [intOf]; omega
    have db : (kk == 1) = false := by rw [beq_eq_false_iff_ne]; exact kb
    have HW : Hid (∀ W, Calls Try.prog 31 #[.agg #[.string s, .string t, .int .i64 f, .bool d], .int .i64 yy] W (Ret (.tuple #[.agg #[.string (pre s t (keptN t yy)), .string ⟨#[]⟩, .int .i64 (-1), .bool false], .int .i64 0]) W)) := fun W => by
      have h := dcrash_any s t f d HSM.out yy W
      rwa [show crashV s t f d yy = .tuple #[.agg #[.string (pre s t (keptN t yy)), .string ⟨#[]⟩, .int .i64 (-1), .bool false], .int .i64 0] from if_neg (by have := HK.out.fuse; omega)] at h
    have HKN := Lib.hid (HK.out.crash (k := keptN t yy) (Nat.min_le_right _ _))
    obtain ⟨E1, E2⟩ := HK.out.cut (k := keptN t yy) (Nat.min_le_right _ _)
    obtain ⟨A, hA⟩ : ∃ A, pre s t (keptN t yy) = A := ⟨_, rfl⟩
    rw [hA] at HW HKN E1 E2
    clear hA
    have g1 : decide ((all.size : Int) < (A.size : Int)) = false := decide_eq_false (by omega)
    have g2 : decide (all.size < A.size) = false := decide_eq_false (by omega)
    have g3 : (A.size : Int) ≤ (all.size : Int) := by omega
    go_wp2_with fail
    go_region_law (first | (go_simp; go_at_call 31; refine (HW.out _).mono ?_; rintro e w2 ⟨rfl, h2⟩; (have g2 : Below wr.heap.size wr w2 := (Below.refl _ _).drew.trans h2); (have HD2 := Lib.hid (keep_block' HD.out g2)); (have HB2 := Lib.hid (HB.out.trans (g2.mono HB.out.size))); (have HL2 := Lib.hid g2); obtain ⟨m0, m1, m2, m3⟩ := four_read HD2.out; (have l0 := four_free HD2.out 0); (have l1 := four_free HD2.out 1); (have l2 := four_free HD2.out 2); (have l3 := four_free HD2.out 3); clear h2 g2))
    all_goals
      have HD3 := Lib.hid (four_set HD2.out (.string A) (.string ⟨#[]⟩) (.int .i64 (-1)) (.bool false))
      have HB3 := Lib.hid (below_four HB2.out (Nat.le_refl _) (.string A) (.string ⟨#[]⟩) (.int .i64 (-1)) (.bool false))
      obtain ⟨r0, r1, r2, r3⟩ := four_read HD3.out
      have hc1 := (HL2.out.cell (by exact HBW.out)).trans c1
      have hc1' := (World.cell?_of_block (below_four_block HBX.out w2 (.string A) (.string ⟨#[]⟩) (.int .i64 (-1)) (.bool false))).trans hc1
      clear m0 m1 m2 m3 l0 l1 l2 l3 HD2 HB2 HL2 hc1
      generalize (((w2.setCell ⟨w.heap.size, 0, none⟩ (.string A)).setCell ⟨w.heap.size, 1, none⟩ (.string ⟨#[]⟩)).setCell ⟨w.heap.size, 2, none⟩ (.int .i64 (-1))).setCell ⟨w.heap.size, 3, none⟩ (.bool false) = w3 at *
      clear k0 k1 k2 k3 j0 j1 j2 j3 c0 c1 c2
      go_wp2_with fail
      go_quiet (fail)
      generalize hw5 : World.drewN w3 _ = w5
      have HD5 : Hid (DB w5 w.heap.size A ⟨#[]⟩ (-1) false) := by rw [← hw5]; exact HD3.out
      have HB5 : Hid (Below w.heap.size w w5) := by rw [← hw5]; exact below_drewN HB3.out _
      clear hw5 HD3 HB3 r0 r1 r2 r3
      obtain ⟨r0, r1, r2, r3⟩ := DB.cells HD5.out
      have HD3 := HD5
      have HB3 := HB5
      clear HD5 HB5
      have HS3 : Hid (Small A ⟨#[]⟩) := HKN.out.small (by have := HL.out; have := HN.out; omega)
      have HY : Hid (∀ W, Calls Try.prog 33 #[.agg #[.string A, .string ⟨#[]⟩, .int .i64 (-1), .bool false]] W (Ret (.string A) W)) := fun W => by
        have := dbytes_any A ⟨#[]⟩ (-1) false HS3.out W
        rwa [← HKN.out.hall] at this
      go_wp2_with fail
      refine (HY.out _).mono ?_
      rintro e w4 ⟨rfl, h4⟩
      have HD4 := Lib.hid (keep_block' HD3.out h4)
      have HB4 := Lib.hid (HB3.out.trans (h4.mono HB3.out.size))
      obtain ⟨s0, s1, s2, s3⟩ := four_read HD4.out
      have e1 := HKN.out.le
      have e2 : decide ((A.size : Int) < (A.size : Int)) = false := decide_eq_false (by omega)
      have e3 : decide (A.size < A.size) = false := decide_eq_false (by omega)
      have e4 : (A.size : Int) ≤ (A.size : Int) := by omega
      have e5 := HKN.out.hpre
      clear h4 r0 r1 r2 r3 HD3 HB3 HY
      go_wp2_with fail
      go_roundw
      case rel => exact ⟨i + 1, _, _, by go_num, rfl, rfl, A, ⟨#[]⟩, (-1), false, HKN.out, HD4.out, HB4.out, HL.out⟩
      case measure => have := HL.out; simp [intOf]; omega
end Go.Proofs.Ythmbpoldjddheaa
