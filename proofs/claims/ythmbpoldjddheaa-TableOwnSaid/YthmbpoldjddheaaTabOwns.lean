/- TableOwn, walked. -/
import Derived.Test.YthmbpoldjddheaaTabOwnA
import Derived.Test.YthmbpoldjddheaaTabNone
namespace Go.Proofs.Ythmbpoldjddheaa
open Go.ChangeShapes Go.WideShapes Go.ChangeAt Go.RowKit
set_option maxHeartbeats 4000000 in
set_option maxRecDepth 100000 in
theorem owns_long (r : Int) (ao bo : Option Addr) (n cap m cap2 : Nat) (hn : n ≤ 9223372036854775807) (hm : m ≤ 9223372036854775807) (hl : 40 < n ∨ 40 < m) (w : World) :
    Calls Try.prog 3 #[.int .i64 r, .slice ao n cap, .slice bo m cap2] w (Ret (.bool true) w) := by
  have HA := Lib.hid (awake4_any w)
  by_cases h1 : 40 < n
  · have d1 : decide (40 < (n : Int)) = true := decide_eq_true (by omega)
    have d2 := decide_eq_true h1
    clear hl hn hm h1
    go_enter Try.func3, Try.ntmps3
    go_wp2_with fail
    refine HA.out.mono ?_
    rintro e w1 ⟨rfl, h1⟩
    go_wp2
    go_ret
    exact ⟨rfl, h1⟩
  · have h2 : 40 < m := by omega
    have d1 : decide (40 < (n : Int)) = false := decide_eq_false (by omega)
    have d2 := decide_eq_false h1
    have d3 : decide (40 < (m : Int)) = true := decide_eq_true (by omega)
    have d4 := decide_eq_true h2
    clear hl hn hm h1 h2
    go_enter Try.func3, Try.ntmps3
    go_wp2_with fail
    refine HA.out.mono ?_
    rintro e w1 ⟨rfl, h1⟩
    go_wp2
    go_ret
    exact ⟨rfl, h1⟩
set_option maxHeartbeats 4000000 in
set_option maxRecDepth 100000 in
theorem owns_any (r : Int) (hr : -9223372036854775808 ≤ r ∧ r ≤ 9223372036854775807) (ao bo : Option Addr) (n cap m cap2 : Nat) (hn : n ≤ 40) (hm : m ≤ 40) (k x : Nat → Int) (t : Nat → ByteArray) (k2 x2 : Nat → Int) (t2 : Nat → ByteArray) (w : World) (h : TActs w ao n k x t) (h2 : TActs w bo m k2 x2 t2) :
    Calls Try.prog 3 #[.int .i64 r, .slice ao n cap, .slice bo m cap2] w (Ret (.bool true) w) := by
  have HA := Lib.hid awake4_any
  have n2 : (n : Int) ≤ 40 := by omega
  have m2 : (m : Int) ≤ 40 := by omega
  have d1 : decide (40 < (n : Int)) = false := decide_eq_false (by omega)
  have d2 : decide (40 < n) = false := decide_eq_false (by omega)
  have d3 : decide (40 < (m : Int)) = false := decide_eq_false (by omega)
  have d4 : decide (40 < m) = false := decide_eq_false (by omega)
  have HI := Lib.hid h
  have HI2 := Lib.hid h2
  have HNW := Lib.hid (new_any r (fun _ => 0) (fun _ => ⟨#[]⟩) w)
  have hmax : max r 0 = ((r.toNat : Nat) : Int) := by omega
  obtain ⟨room, hroom⟩ : ∃ room, r.toNat = room := ⟨_, rfl⟩
  rw [hroom] at HNW hmax
  have HRM : Hid (room ≤ 9223372036854775807) := by show room ≤ _; omega
  obtain ⟨B, hB⟩ : ∃ B, w.heap.size = B := ⟨_, rfl⟩
  rw [hB] at HNW
  have HBS := Lib.hid hB
  have HN := Lib.hid hn
  have HM := Lib.hid hm
  clear hB h h2 hn hm hroom
  go_enter Try.func3, Try.ntmps3
  go_wp2_with fail
  refine HNW.out.mono ?_
  rintro e w1 ⟨hb1, rfl, ht1⟩
  have HB1 : Hid (Below B w w1) := hb1
  have S1 : B ≤ w1.heap.size := by have := hb1.size; have := HBS.out; omega
  have HT1 := Lib.hid ht1
  clear hb1 ht1
  have HST : Hid (∃ m a s v b u v2, m ≤ 0 ∧ Pair (w1.alloc (.cells #[.int .i64 (room : Nat), .slice none 0 0] 29)) B B w1.heap.size room m a s v b u v2) :=
    ⟨0, _, _, _, fun _ => 0, fun _ => ⟨#[]⟩, .slice none 0 0, Nat.le_refl _, HT1.out.under ((Below.refl _ _).alloc (Nat.le_refl _) _), ⟨S1, heap_alloc_new w1 _, OwnsR.nil _ _ _ _ _, fun e => by cases e⟩, ⟨HT1.out.rises, fun i j _ hj => by omega, fun i hi => by omega, fun i hi => by omega⟩, Nat.zero_le _⟩
  have HB2 : Hid (Below B w (w1.alloc (.cells #[.int .i64 (room : Nat), .slice none 0 0] 29))) := HB1.out.alloc S1 _
  have S2 : B ≤ (w1.alloc (.cells #[.int .i64 (room : Nat), .slice none 0 0] 29)).heap.size := by simp; omega
  obtain ⟨g2, hg2⟩ : ∃ g2, w1.heap.size = g2 := ⟨_, rfl⟩
  rw [hg2] at HST
  go_wp2_with fail
  (try rw [hg2])
  generalize w1.alloc (.cells #[.int .i64 (room : Nat), .slice none 0 0] 29) = w2 at *
  clear HT1 HB1 S1 hg2
  have HS2 := Lib.hid S2
  clear S2
  go_loopw [9] (fun iv wr => ∃ i : Nat, i ≤ n ∧ iv = .int .i64 i ∧ Hid (∃ m a s v b u v2, m ≤ i ∧ Pair wr B B g2 room m a s v b u v2) ∧ Hid (Below B w wr ∧ B ≤ wr.heap.size)) (fun iv _ => n - (intOf iv).toNat)
  case atStart => exact ⟨0, Nat.zero_le _, rfl, HST.out, HB2.out, HS2.out⟩
  case round =>
    obtain ⟨i, hi, rfl, HP, HB⟩ := hrel
    have hi2 : (i : Int) ≤ n := by omega
    have HBW : Hid (Below w.heap.size w wr) := by have he := HBS.out; subst he; exact HB.out.1
    by_cases hlt : i < n
    · have hlt2 : (i : Int) < n := by omega
      obtain ⟨q, a, s, v, b, u, v2, hq, hpair⟩ := HP.out
      have HPR := Lib.hid hpair
      obtain ⟨bb, off, rfl, _, hc⟩ := (HI.out.below HBW.out) (by omega)
      obtain ⟨c0, c1, c2⟩ := hc i hlt
      have HLT := Lib.hid hlt
      have HQ : Hid (q ≤ 40) := by have := HN.out; show q ≤ 40; omega
      have HQ2 := Lib.hid hq
      clear hc hpair hlt hi hq
      obtain ⟨kk, hkk⟩ : ∃ q, k i = q := ⟨_, rfl⟩
      obtain ⟨xx, hxx⟩ : ∃ q, x i = q := ⟨_, rfl⟩
      obtain ⟨tt, htt⟩ : ∃ q, t i = q := ⟨_, rfl⟩
      rw [hkk] at c0
      rw [hxx] at c1
      rw [htt] at c2
      clear hkk hxx htt
      have HDO := Lib.hid (does_any B B g2 room q a s v b u v2 kk xx tt (by have := HQ.out; omega) HRM.out wr HB.out.2 HPR.out)
      unfold actV at HDO
      go_wp2_with fail
      refine HDO.out.mono ?_
      rintro e w3 ⟨rfl, hb3, m3, a3, s3, v3, b3, u3, v4, hm3, hp3⟩
      have HP3 := Lib.hid hp3
      have HB3 : Hid (Below B w w3 ∧ B ≤ w3.heap.size) := ⟨HB.out.1.trans hb3, Nat.le_trans HB.out.2 hb3.size⟩
      have HM3 : Hid (m3 ≤ i + 1) := by have := HQ2.out; show m3 ≤ i + 1; omega
      clear hb3 hm3 hp3 HDO HP HPR HB HBW
      go_wp2_with fail
      go_roundw
      case rel => exact ⟨i + 1, by have := HLT.out; omega, by go_num, ⟨m3, a3, s3, v3, b3, u3, v4, HM3.out, HP3.out⟩, HB3.out⟩
      case measure => have := HLT.out; simp [intOf]; omega
    · obtain rfl : i = n := by omega
      obtain ⟨q, a, s, v, b, u, v2, hq, hpair⟩ := HP.out
      have HPR := Lib.hid hpair
      have HQ : Hid (q ≤ 40) := by have := HN.out; show q ≤ 40; omega
      clear hq hpair hi hi2 hlt HP HST HB2 HS2
      have HRW := Lib.hid (rows_any B B room q a s v (by have := HQ.out; omega) wr HPR.out.t)
      go_wp2_with fail
      refine HRW.out.mono ?_
      rintro e w4 ⟨hb4, was, rfl, how⟩
      have HW4 := Lib.hid how
      have HB4 := Lib.hid hb4
      have HP4 := Lib.hid (HPR.out.under hb4)
      clear how hb4 HRW
      have HCP := Lib.hid (copy_any B B room q a s v (by have := HQ.out; omega) w4 HP4.out.t)
      go_wp2_with fail
      refine HCP.out.mono ?_
      rintro e w5 ⟨hb5, g5, v5, rfl, ht5⟩
      have HW5 := Lib.hid (HW4.out.under hb5)
      have HP5 := Lib.hid (HP4.out.under hb5)
      have HT5 := Lib.hid ht5
      have HB5 := Lib.hid hb5
      clear ht5 hb5 HCP
      obtain ⟨ao2, cq, ev2, hr2⟩ := HP5.out.q.rows.view
      have HR2 := Lib.hid hr2
      have q0 : w5.cell? ⟨g2, 0, none⟩ = some (.int .i64 (room : Nat)) := by simp [World.cell?, HP5.out.q.here]
      have q1 : w5.cell? ⟨g2, 1, none⟩ = some (.slice ao2 q cq) := by simp [World.cell?, HP5.out.q.here, ev2]
      have HEV := Lib.hid ev2
      clear hr2 ev2
      obtain ⟨g6, hg6⟩ : ∃ g6, w5.heap.size = g6 := ⟨_, rfl⟩
      have HG6 := Lib.hid hg6
      have HB6 : Hid (Below g6 w5 (w5.alloc (.cells #[.int .i64 (room : Nat), .slice none 0 0] 29)) ∧ g6 ≤ (w5.alloc (.cells #[.int .i64 (room : Nat), .slice none 0 0] 29)).heap.size) := ⟨by rw [← hg6]; exact (Below.refl _ _).alloc (Nat.le_refl _) _, by rw [← hg6]; simp⟩
      have HQ6 : Hid (QAt (w5.alloc (.cells #[.int .i64 (room : Nat), .slice none 0 0] 29)) g6 g6 room 0 b u (.slice none 0 0)) := by rw [← hg6]; exact ⟨Nat.le_refl _, heap_alloc_new w5 _, OwnsR.nil _ _ _ _ _, fun e => by cases e⟩
      obtain ⟨i0, hinf, hz0, hz1, hz2⟩ := info_parts infoQ
      have q2 : (q : Int) ≤ 40 := by have := HQ.out; omega
      obtain ⟨wo, rfl⟩ : ∃ x, x = wr := ⟨_, rfl⟩
      go_wp2_with fail
      (try rw [hg6])
      generalize w5.alloc (.cells #[.int .i64 (room : Nat), .slice none 0 0] 29) = w6 at *
      clear hg6 q0 q1
      go_loopw [13] (fun iv wr => ∃ j : Nat, j ≤ q ∧ iv = .int .i64 j ∧ Hid (∃ v6, QAt wr g6 g6 room j b u v6) ∧ Hid (Below g6 w5 wr ∧ g6 ≤ wr.heap.size)) (fun iv _ => q - (intOf iv).toNat)
      case atStart => exact ⟨0, Nat.zero_le _, rfl, ⟨_, HQ6.out⟩, HB6.out⟩
      case round =>
        obtain ⟨j, hj, rfl, HQJ, HBJ⟩ := hrel
        have hj2 : (j : Int) ≤ q := by omega
        have HP7 : Hid (Pair wr B B g2 room q a s v b u v2) := HP5.out.under (by rw [HG6.out]; exact HBJ.out.1)
        obtain ⟨v6, hq6⟩ := HQJ.out
        have HQ7 := Lib.hid hq6
        obtain ⟨ao6, c6, e6, _⟩ := hq6.rows.view
        subst e6
        have p1 : wr.cell? ⟨g2, 1, none⟩ = some (.slice ao2 q cq) := by simp [World.cell?, HP7.out.q.here, HEV.out]
        have k1 : wr.cell? ⟨g6, 1, none⟩ = some (.slice ao6 j c6) := by simp [World.cell?, hq6.here]
        have kf : wr.frozen? ⟨g6, 1, none⟩ = false := by simp [World.frozen?, hq6.here]
        clear hq6
        by_cases hlt : j < q
        · have hlt2 : (j : Int) < q := by omega
          obtain ⟨ao3, c3, e3, hr3⟩ := HP7.out.q.rows.view
          rw [HEV.out] at e3
          cases e3
          obtain ⟨bq, oq, rfl, _, hcq⟩ := hr3 (by omega)
          obtain ⟨x3, x4⟩ := hcq j hlt
          have HLJ := Lib.hid hlt
          clear hcq hr3 hlt hj
          obtain ⟨y, hy⟩ : ∃ y, b j = y := ⟨_, rfl⟩
          obtain ⟨z, hz⟩ : ∃ z, u j = z := ⟨_, rfl⟩
          rw [hy] at x3
          rw [hz] at x4
          have HY := Lib.hid hy
          have HZ := Lib.hid hz
          clear hy hz
          have HRW7 : Hid (wr.ownsRow g6 37 2 (.slice ao6 j c6) j (rowCells b u j)) := HQ7.out.rows
          have HC7 : Hid ((wr.alloc (.cells #[.int .i64 y, .string z] 37)).cell? ⟨wr.heap.size, 0, none⟩ = some (.int .i64 y) ∧ (wr.alloc (.cells #[.int .i64 y, .string z] 37)).cell? ⟨wr.heap.size, 1, none⟩ = some (.string z)) := ⟨by rw [World.cell?_alloc_new]; rfl, by rw [World.cell?_alloc_new]; rfl⟩
          have HL6 : Hid (g6 < wr.heap.size) := lt_of_block HQ7.out.here
          have HCF : Hid (∀ w7 : World, w7.heap[g6]? = some (.cells #[.int .i64 (room : Nat), .slice ao6 j c6] 29 (0, 0)) → w7.frozen? ⟨g6, 1, none⟩ = false) := fun w7 h => by simp [World.frozen?, h]
          have HC1 : Hid (∀ w7 : World, w7.heap[g6]? = some (.cells #[.int .i64 (room : Nat), .slice ao6 j c6] 29 (0, 0)) → w7.cell? ⟨g6, 1, none⟩ = some (.slice ao6 j c6)) := fun w7 h => by simp [World.cell?, h]
          have kA : (wr.alloc (.cells #[.int .i64 y, .string z] 37)).cell? ⟨g6, 1, none⟩ = some (.slice ao6 j c6) := HC1.out _ ((Below.heap_alloc _ _ _ HL6.out).trans HQ7.out.here)
          have HS7 : Hid (wr.heap.size ≤ (wr.alloc (.cells #[.int .i64 y, .string z] 37)).heap.size) := by show _ ≤ _; simp
          have HJ7 : Hid (j + 1 ≤ maxLen ∧ (j + 1) * 24 ≤ 140737488355328 ∧ g6 ≤ wr.heap.size) := ⟨by unfold maxLen; omega, by omega, HBJ.out.2⟩
          go_wp2_with fail
          go_region_law (refine step_append_row _ rfl _ _ 27 rfl g6 37 i0 (.agg #[.int .i64 0, .string ⟨#[]⟩]) 24 Try.underlying27 hinf hz0 hz1 hz2 rfl (.slice ao6 j c6) j (rowCells b u j) rfl (World.ownsRow.alloc HRW7.out _) wr.heap.size 1 (.int .i64 y) (.string z) rfl HC7.out ⟨rfl, rfl⟩ ⟨HJ7.out.1, HJ7.out.2.1, Nat.le_trans HJ7.out.2.2 HS7.out⟩ ?_; intro g7 c7 w7 HO7 HG7 HA7; (have hb7 : w7.heap[g6]? = some (.cells #[.int .i64 (room : Nat), .slice ao6 j c6] 29 (0, 0)) := ((HG7.out.block g6 (Nat.lt_of_lt_of_le HL6.out HS7.out) (fun e => HQ7.out.apart e.symm)).trans (Below.heap_alloc _ _ _ HL6.out)).trans HQ7.out.here); (have jf : w7.frozen? ⟨g6, 1, none⟩ = false := HCF.out w7 hb7); (have j1 : ∃ v, w7.cell? ⟨g6, 1, none⟩ = some v ∧ v = .slice ao6 j c6 := ⟨_, HC1.out w7 hb7, rfl⟩); obtain ⟨v7, j1, j2⟩ := j1; (have HB7 := Lib.hid hb7); (have HV7 := Lib.hid j2); clear hb7 j2)
          all_goals
            clear kA
            obtain ⟨QQ, BB⟩ := append_qat wr w7 g6 room j c6 g7 c7 ao6 b u y z HQ7.out HY.out HZ.out HB7.out HO7.out HG7.out HA7.out
            have HQQ := Lib.hid QQ
            have HBB := Lib.hid (Below.trans HBJ.out.1 BB)
            have HSS := Lib.hid (Nat.le_trans HBJ.out.2 BB.size)
            clear QQ BB
            go_wp2_with fail
            go_roundw
            case rel => exact ⟨j + 1, by have := HLJ.out; omega, by go_num, ⟨_, HQQ.out⟩, HBB.out, HSS.out⟩
            case measure => have := HLJ.out; simp [intOf]; omega
        · have hqj : q = j := by omega
          subst hqj
          obtain ⟨aow, cw, hwas, _⟩ := HW4.out.view
          subst hwas
          have HSZ : Hid (w4.heap.size ≤ g6 ∧ w4.heap.size ≤ wr.heap.size) := by
            have h1 := HB5.out.size
            have h2 := HG6.out
            have h3 := HBJ.out.2
            show _ ∧ _
            omega
          have HT8 : Hid (TAt wr w4.heap.size g5 room q a s v5) := HT5.out.under (by rw [HG6.out]; exact HBJ.out.1)
          have HP8 : Hid (Pair wr w4.heap.size g5 g6 room q a s v5 b u (.slice ao6 q c6)) := ⟨HT8.out, ⟨HSZ.out.1, HQ7.out.here, OwnsR.low HQ7.out.rows HSZ.out.1, HQ7.out.apart⟩, HP7.out.bond, HP7.out.le⟩
          have HBX : Hid (Below w4.heap.size w4 wr) := HB5.out.trans (HBJ.out.1.mono HSZ.out.1)
          have HWW : Hid (w.heap.size ≤ wo.heap.size ∧ wo.heap.size ≤ w4.heap.size) := ⟨HBW.out.size, HB4.out.size⟩
          obtain ⟨B1, hB1⟩ : ∃ B1, w4.heap.size = B1 := ⟨_, rfl⟩
          rw [hB1] at HP8 HBX HWW HSZ
          have HB1 := Lib.hid hB1
          obtain ⟨w8, rfl⟩ : ∃ x, x = wr := ⟨_, rfl⟩
          clear hB1 HP7 HQ7 HT8 k1 kf hlt hj hj2 HQJ HBJ HQ6 HB6 HP5 HR2 HW5 HT5 HG6 HEV HB5
          go_wp2_with fail
          go_loopw [14] (fun iv wr => ∃ l : Nat, l ≤ m ∧ iv = .int .i64 l ∧ Hid (∃ m3 a s v b u v2, m3 ≤ 40 + l ∧ Pair wr B1 g5 g6 room m3 a s v b u v2) ∧ Hid (Below B1 w4 wr ∧ B1 ≤ wr.heap.size)) (fun iv _ => m - (intOf iv).toNat)
          case atStart => exact ⟨0, Nat.zero_le _, rfl, ⟨q, a, s, v5, b, u, _, by have := HQ.out; omega, HP8.out⟩, HBX.out, HSZ.out.2⟩
          case round =>
            obtain ⟨l, hl, rfl, HPL, HBL⟩ := hrel
            have hl2 : (l : Int) ≤ m := by omega
            have HWR : Hid (Below w.heap.size w wr) := (HBW.out.trans (HB4.out.mono HWW.out.1)).trans (HBL.out.1.mono (Nat.le_trans HWW.out.1 HWW.out.2))
            by_cases hlt : l < m
            · have hlt2 : (l : Int) < m := by omega
              obtain ⟨q3, a3, s3, v3, b3, u3, v4, hq3, hp3⟩ := HPL.out
              have HPR3 := Lib.hid hp3
              obtain ⟨bb, off, rfl, _, hc⟩ := (HI2.out.below HWR.out) (by omega)
              obtain ⟨c0, c1, c2⟩ := hc l hlt
              have HLT := Lib.hid hlt
              have HQ3 : Hid (q3 ≤ 80) := by have := HM.out; show q3 ≤ 80; omega
              have HQ4 := Lib.hid hq3
              clear hc hp3 hlt hl hq3
              obtain ⟨kk, hkk⟩ : ∃ q, k2 l = q := ⟨_, rfl⟩
              obtain ⟨xx, hxx⟩ : ∃ q, x2 l = q := ⟨_, rfl⟩
              obtain ⟨tt, htt⟩ : ∃ q, t2 l = q := ⟨_, rfl⟩
              rw [hkk] at c0
              rw [hxx] at c1
              rw [htt] at c2
              clear hkk hxx htt
              have HDO := Lib.hid (does_any B1 g5 g6 room q3 a3 s3 v3 b3 u3 v4 kk xx tt (by have := HQ3.out; omega) HRM.out wr HBL.out.2 HPR3.out)
              unfold actV at HDO
              go_wp2_with fail
              refine HDO.out.mono ?_
              rintro e w9 ⟨rfl, hb9, m9, a9, s9, v9, b9, u9, v10, hm9, hp9⟩
              have HP9 := Lib.hid hp9
              have HB9 : Hid (Below B1 w4 w9 ∧ B1 ≤ w9.heap.size) := ⟨HBL.out.1.trans hb9, Nat.le_trans HBL.out.2 hb9.size⟩
              have HM9 : Hid (m9 ≤ 40 + (l + 1)) := by have := HQ4.out; show m9 ≤ 40 + (l + 1); omega
              clear hb9 hm9 hp9 HDO HPL HPR3 HBL HWR
              go_wp2_with fail
              go_roundw
              case rel => exact ⟨l + 1, by have := HLT.out; omega, by go_num, ⟨m9, a9, s9, v9, b9, u9, v10, HM9.out, HP9.out⟩, HB9.out⟩
              case measure => have := HLT.out; simp [intOf]; omega
            · have hlm : m = l := by omega
              subst hlm
              obtain ⟨q3, a3, s3, v3, b3, u3, v4, hq3, hp3⟩ := HPL.out
              have HPR3 := Lib.hid hp3
              have HQ3 : Hid (q3 ≤ 80) := by have := HM.out; show q3 ≤ 80; omega
              have HPA : Hid (Pair wr B B g2 room q a s v b u v2) := HP4.out.under (by rw [HB1.out]; exact HBL.out.1)
              have HSM := Lib.hid (same_any B B g2 room q a s b u v v2 (by have := HQ.out; omega) HRM.out HPA.out.le wr HPA.out.t HPA.out.q HPA.out.bond)
              clear hq3 hp3 hl hl2 hlt HPL HP8 HBX
              go_wp2_with fail
              refine HSM.out.mono ?_
              rintro e w9 ⟨rfl, hb9⟩
              have HB9 : Hid (Below B1 w4 w9 ∧ B1 ≤ w9.heap.size) := ⟨HBL.out.1.trans (hb9.mono HBL.out.2), Nat.le_trans HBL.out.2 hb9.size⟩
              have HP9 := Lib.hid (HPR3.out.under hb9)
              clear hb9 HSM HPA HPR3
              have HSM := Lib.hid (same_any B1 g5 g6 room q3 a3 s3 b3 u3 v3 v4 (by have := HQ3.out; omega) HRM.out HP9.out.le w9 HP9.out.t HP9.out.q HP9.out.bond)
              go_wp2_with fail
              refine HSM.out.mono ?_
              rintro e w10 ⟨rfl, hb10⟩
              have HB10 : Hid (Below B1 w4 w10 ∧ B1 ≤ w10.heap.size) := ⟨HB9.out.1.trans (hb10.mono HB9.out.2), Nat.le_trans HB9.out.2 hb10.size⟩
              clear hb10 HSM HP9
              have HW10 : Hid (OwnsR w10 wo.heap.size 39 (.slice aow q cw) q a s) := HW4.out.under (by rw [HB1.out]; exact HB10.out.1)
              have q2 : (q : Int) ≤ 40 := by have := HQ.out; omega
              have HPUT := Lib.hid (fun W => put_none 0 ⟨#[]⟩ W)
              have HSET := Lib.hid (fun W => set_none 0 ⟨#[]⟩ W)
              have HGET := Lib.hid (fun W => get_none 0 W)
              have HDRP := Lib.hid (fun W => drop_none 0 W)
              have HLFT := Lib.hid left_none
              have HLEN := Lib.hid len_none
              have HRWS := Lib.hid rows_none
              have HCPY := Lib.hid copy_none
              have HNEA := Lib.hid (fun W => near_none 0 W)
              obtain ⟨wl, rfl⟩ : ∃ x, x = wr := ⟨_, rfl⟩
              go_wp2_with fail
              clear p1 HBL
              go_loopw [15] (fun iv wr => ∃ l : Nat, l ≤ q ∧ iv = .int .i64 l ∧ Hid (∃ s', OwnsR wr wo.heap.size 39 (.slice aow q cw) q a s') ∧ Hid (Below wo.heap.size wo wr)) (fun iv _ => q - (intOf iv).toNat)
              case atStart => exact ⟨0, Nat.zero_le _, rfl, ⟨s, HW10.out⟩, HB4.out.trans (HB10.out.1.mono HWW.out.2)⟩
              case round =>
                obtain ⟨l, hl, rfl, HOL, HBL⟩ := hrel
                have hl2 : (l : Int) ≤ q := by omega
                by_cases hlt : l < q
                · have hlt2 : (l : Int) < q := by omega
                  obtain ⟨s', ho⟩ := HOL.out
                  have HO := Lib.hid ho
                  rcases ho.2 with ⟨e, h0⟩ | ⟨gr, cap4, cur, e, e2, e3, e4⟩
                  · omega
                  cases e
                  have c2 := World.ownsRow.cellAt HO.out (l * 2 + 1) (by omega)
                  rw [(rowCells_at a s' q l hlt).2] at c2
                  have jf : wr.frozen? ⟨gr, l * 2 + 1, none⟩ = false := by simp [World.frozen?, e3]
                  have HE2 := Lib.hid e2
                  have HLT := Lib.hid hlt
                  obtain ⟨r1, r2⟩ := World.ownsRow.stored HO.out (l * 2 + 1) (.string ⟨#[99, 104, 97, 110, 103, 101, 100]⟩)
                  rw [rowCells_set a s' l ⟨#[99, 104, 97, 110, 103, 101, 100]⟩ q hlt] at r1
                  have HR1 := Lib.hid r1
                  clear ho e2 e3 e4 hlt hl r1 r2 HOL
                  go_wp2_with fail
                  go_roundw
                  case rel => exact ⟨l + 1, by have := HLT.out; omega, by go_num, ⟨_, HR1.out⟩, HBL.out.setCell (by exact HE2.out) _⟩
                  case measure => have := HLT.out; simp [intOf]; omega
                · have hlm : q = l := by omega
                  subst hlm
                  have HPZ : Hid (Pair wr B B g2 room q a s v b u v2) := HPR.out.under HBL.out
                  clear hl hl2 hlt HOL
                  go_wp2_with fail
                  refine (HGET.out _).mono ?_
                  rintro e w11 ⟨rfl, rfl⟩
                  go_wp2_with fail
                  refine (HDRP.out _).mono ?_
                  rintro e w11 ⟨rfl, rfl⟩
                  go_wp2_with fail
                  refine (HNEA.out _).mono ?_
                  rintro e w12 ⟨rfl, hb12⟩
                  have HB12 := Lib.hid hb12
                  clear hb12
                  unfold rowV
                  go_wp2_with fail
                  refine (HA.out _).mono ?_
                  rintro e w13 ⟨rfl, hb13⟩
                  have HBZ : Hid (Below wr.heap.size wr w13) := (HB12.out.alloc HB12.out.size _).trans (hb13.mono (Nat.le_trans HB12.out.size (by simp)))
                  have HPY : Hid (Pair w13 B B g2 room q a s v b u v2) := HPZ.out.under HBZ.out
                  clear hb13 HB12
                  have HSM := Lib.hid (same_any B B g2 room q a s b u v v2 (by have := HQ.out; omega) HRM.out HPY.out.le w13 HPY.out.t HPY.out.q HPY.out.bond)
                  go_wp2_with fail
                  refine HSM.out.mono ?_
                  rintro e w14 ⟨rfl, hb14⟩
                  have HBE : Hid (Below wr.heap.size wr w14) := HBZ.out.trans (hb14.mono HBZ.out.size)
                  have HEND : Hid (Below w.heap.size w w14) := (HBW.out.trans (HBL.out.mono HBW.out.size)).trans (HBE.out.mono (Nat.le_trans HBW.out.size HBL.out.size))
                  clear hb14 HSM HPY HPZ HBZ
                  go_wp2_with fail
                  refine (HPUT.out _).mono ?_
                  rintro e w15 ⟨rfl, rfl⟩
                  go_wp2_with fail
                  refine (HSET.out _).mono ?_
                  rintro e w15 ⟨rfl, rfl⟩
                  go_wp2_with fail
                  refine (HLEN.out _).mono ?_
                  rintro e w15 ⟨rfl, rfl⟩
                  go_wp2_with fail
                  refine (HLFT.out _).mono ?_
                  rintro e w15 ⟨rfl, rfl⟩
                  go_wp2_with fail
                  refine (HRWS.out _).mono ?_
                  rintro e w15 ⟨rfl, rfl⟩
                  go_wp2_with fail
                  refine (HCPY.out _).mono ?_
                  rintro e w15 ⟨rfl, rfl⟩
                  go_wp2_with fail
                  go_ret
                  exact ⟨rfl, HEND.out⟩
end Go.Proofs.Ythmbpoldjddheaa
