/- TablePlays, walked. -/
import Derived.Test.YtmepaeppkeaifaaTabAwake
namespace Go.Proofs.Ytmepaeppkeaifaa
open Go.ChangeShapes Go.WideShapes Go.ChangeAt Go.RowKit
/-- n calls lie at the address, three cells each; of none nothing is said. -/
def TActs (w : World) (ao : Option Addr) (n : Nat) (k x : Nat → Int) (t : Nat → ByteArray) : Prop :=
  0 < n → ∃ b off, ao = some ⟨b, off, none⟩ ∧ b < w.heap.size ∧ ∀ i, i < n → w.cell? ⟨b, off + i * 3, none⟩ = some (.int .i64 (k i)) ∧ w.cell? ⟨b, off + i * 3 + 1, none⟩ = some (.int .i64 (x i)) ∧ w.cell? ⟨b, off + i * 3 + 2, none⟩ = some (.string (t i))
theorem TActs.below {w w' : World} {ao : Option Addr} {n : Nat} {k x : Nat → Int} {t : Nat → ByteArray} (h : TActs w ao n k x t) (hb : Below w.heap.size w w') : TActs w' ao n k x t := fun hn => by
  obtain ⟨b, off, e, hlt, hc⟩ := h hn
  exact ⟨b, off, e, Nat.lt_of_lt_of_le hlt hb.size, fun i hi => ⟨(hb.cell (by exact hlt)).trans (hc i hi).1, (hb.cell (by exact hlt)).trans (hc i hi).2.1, (hb.cell (by exact hlt)).trans (hc i hi).2.2⟩⟩
theorem plays_long (r near : Int) (ao : Option Addr) (n cap : Nat) (hn : n ≤ 9223372036854775807) (hl : 60 < n) (w : World) :
    Calls Try.prog 3 #[.int .i64 r, .slice ao n cap, .int .i64 near] w (Ret (.bool true) w) := by
  have HA := Lib.hid (awake4_any w)
  have d1 : decide (60 < (n : Int)) = true := decide_eq_true (by omega)
  have d2 := decide_eq_true hl
  clear hl hn
  go_enter Try.func3, Try.ntmps3
  go_wp2_with fail
  refine HA.out.mono ?_
  rintro e w1 ⟨rfl, h1⟩
  go_wp2
  go_ret
  exact ⟨rfl, h1⟩
/-- What Near tells of both is the same. -/
theorem near_bound {n : Nat} {a : Nat → Int} {s : Nat → ByteArray} {b : Nat → Int} {u : Nat → ByteArray} (hb : Bond n a s b u) {x : Int} {p : Nat} {r : Int} (hp : Place a n x p) (hl : Least b n x r) :
    (p < n ∧ ∃ i : Nat, r = i ∧ i < n ∧ b i = a p ∧ u i = s p) ∨ (p = n ∧ r = -1) := by
  cases hl with
  | here i hi h least =>
    obtain ⟨j, hj, e1, e2⟩ := hb.back i hi
    have hpj : p ≤ j := Classical.byContradiction fun hlt => by
      have := hp.lo j (by omega)
      omega
    have hpn : p < n := by omega
    obtain ⟨i', hi', e3, e4⟩ := hb.fwd p hpn
    have h1 := hp.hi p (Nat.le_refl _) hpn
    have h2 := least i' hi' (by rw [← e3]; exact h1)
    have h3 : j = p := by
      rcases Nat.lt_or_ge p j with l | l
      · have := hb.rises p j l hj; omega
      · omega
    exact Or.inl ⟨hpn, i, rfl, hi, by rw [e1, h3], by rw [e2, h3]⟩
  | none h =>
    refine Or.inr ⟨Classical.byContradiction fun hne => ?_, rfl⟩
    have hpn : p < n := by have := hp.le; omega
    obtain ⟨i, hi, e1, _⟩ := hb.fwd p hpn
    have h1 := hp.hi p (Nat.le_refl _) hpn
    have := h i hi
    omega
set_option maxHeartbeats 4000000 in
set_option maxRecDepth 100000 in
theorem plays_any (r near : Int) (hr : -9223372036854775808 ≤ r ∧ r ≤ 9223372036854775807) (ao : Option Addr) (n cap : Nat) (hn : n ≤ 60) (k x : Nat → Int) (t : Nat → ByteArray) (htz : ∀ i, i < n → (t i).size ≤ 9223372036854775807) (w : World) (h : TActs w ao n k x t) :
    Calls Try.prog 3 #[.int .i64 r, .slice ao n cap, .int .i64 near] w (Ret (.bool true) w) := by
  have HA := Lib.hid awake4_any
  have n2 : (n : Int) ≤ 60 := by omega
  have d1 : decide (60 < (n : Int)) = false := decide_eq_false (by omega)
  have d2 : decide (60 < n) = false := decide_eq_false (by omega)
  have HI := Lib.hid h
  have HTZ := Lib.hid htz
  have HNW := Lib.hid (new_any r (fun _ => 0) (fun _ => ⟨#[]⟩) w)
  have hmax : max r 0 = ((r.toNat : Nat) : Int) := by omega
  obtain ⟨room, hroom⟩ : ∃ room, r.toNat = room := ⟨_, rfl⟩
  rw [hroom] at HNW hmax
  have HRM : Hid (room ≤ 9223372036854775807) := by show room ≤ _; omega
  obtain ⟨B, hB⟩ : ∃ B, w.heap.size = B := ⟨_, rfl⟩
  rw [hB] at HNW
  have HBS := Lib.hid hB
  clear hB h htz hn hroom
  go_enter Try.func3, Try.ntmps3
  go_wp2_with fail
  refine HNW.out.mono ?_
  rintro e w1 ⟨hb1, rfl, ht1⟩
  have HB1 : Hid (Below B w w1) := hb1
  have S1 : B ≤ w1.heap.size := by have := hb1.size; have := HBS.out; omega
  have HT1 := Lib.hid ht1
  clear hb1 ht1
  have HST : Hid (∃ m a s v b u v2, m ≤ 0 ∧ Pair (w1.alloc (.cells #[.int .i64 (room : Nat), .slice none 0 0] 29)) B B w1.heap.size room m a s v b u v2) :=
    ⟨0, _, _, _, fun _ => 0, fun _ => ⟨#[]⟩, .slice none 0 0, Nat.le_refl _, HT1.out.under ((Below.refl _ _).alloc (Nat.le_refl _) _), ⟨S1, heap_alloc_new w1 _, OwnsR.nil _ _ _ _ _, fun e => by cases e⟩, ⟨HT1.out.rises, fun i j _ hj => by omega, fun i hi => by omega, fun i hi => by omega⟩, Nat.zero_le _⟩
  have HB2 : Hid (Below B w (w1.alloc (.cells #[.int .i64 (room : Nat), .slice none 0 0] 29))) := HB1.out.alloc S1 _
  have S2 : B ≤ (w1.alloc (.cells #[.int .i64 (room : Nat), .slice none 0 0] 29)).heap.size := by simp; omega
  obtain ⟨g2, hg2⟩ : ∃ g2, w1.heap.size = g2 := ⟨_, rfl⟩
  rw [hg2] at HST
  go_wp2_with fail
  (try rw [hg2])
  generalize w1.alloc (.cells #[.int .i64 (room : Nat), .slice none 0 0] 29) = w2 at *
  clear HT1 HB1 S1 hg2
  have HS2 := Lib.hid S2
  clear S2
  go_loopw [9] (fun iv wr => ∃ i : Nat, i ≤ n ∧ iv = .int .i64 i ∧ Hid (∃ m a s v b u v2, m ≤ i ∧ Pair wr B B g2 room m a s v b u v2) ∧ Hid (Below B w wr ∧ B ≤ wr.heap.size)) (fun iv _ => n - (intOf iv).toNat)
  case atStart => exact ⟨0, Nat.zero_le _, rfl, HST.out, HB2.out, HS2.out⟩
  case round =>
    obtain ⟨i, hi, rfl, HP, HB⟩ := hrel
    have hi2 : (i : Int) ≤ n := by omega
    have HBW : Hid (Below w.heap.size w wr) := by have he := HBS.out; subst he; exact HB.out.1
    by_cases hlt : i < n
    · have hlt2 : (i : Int) < n := by omega
      obtain ⟨m, a, s, v, b, u, v2, hm, hpair⟩ := HP.out
      have HPR := Lib.hid hpair
      obtain ⟨bb, off, rfl, _, hc⟩ := (HI.out.below HBW.out) (by omega)
      obtain ⟨c0, c1, c2⟩ := hc i hlt
      have hz := HTZ.out i hlt
      have HLT := Lib.hid hlt
      have HM : Hid (m ≤ 60) := by show m ≤ 60; omega
      have HM2 := Lib.hid hm
      clear hc hpair hlt hi hm
      obtain ⟨kk, hkk⟩ : ∃ q, k i = q := ⟨_, rfl⟩
      obtain ⟨xx, hxx⟩ : ∃ q, x i = q := ⟨_, rfl⟩
      obtain ⟨tt, htt⟩ : ∃ q, t i = q := ⟨_, rfl⟩
      rw [hkk] at c0
      rw [hxx] at c1
      rw [htt] at c2 hz
      clear hkk hxx htt
      by_cases hbig : 100 < tt.size
      · have d3 := decide_eq_true hbig
        have d4 : decide (100 < (tt.size : Int)) = true := decide_eq_true (by omega)
        clear hbig hz
        go_wp2_with fail
        refine (HA.out _).mono ?_
        rintro e w3 ⟨rfl, h3⟩
        have HB3 : Hid (Below w.heap.size w w3) := HBW.out.trans (h3.mono HBW.out.size)
        clear h3
        go_wp2
        go_ret
        exact ⟨rfl, HB3.out⟩
      · have d3 := decide_eq_false hbig
        have d4 : decide (100 < (tt.size : Int)) = false := decide_eq_false (by omega)
        clear hbig hz
        have HDO := Lib.hid (does_any B B g2 room m a s v b u v2 kk xx tt (by have := HM.out; omega) HRM.out wr HB.out.2 HPR.out)
        unfold actV at HDO
        go_wp2_with fail
        refine HDO.out.mono ?_
        rintro e w3 ⟨rfl, hb3, m3, a3, s3, v3, b3, u3, v4, hm3, hp3⟩
        have HP3 := Lib.hid hp3
        have HB3 : Hid (Below B w w3 ∧ B ≤ w3.heap.size) := ⟨HB.out.1.trans hb3, Nat.le_trans HB.out.2 hb3.size⟩
        have HM3 : Hid (m3 ≤ i + 1) := by have := HM2.out; show m3 ≤ i + 1; omega
        have HM60 : Hid (m3 ≤ 61) := by have := HM.out; show m3 ≤ 61; omega
        clear hb3 hm3 hp3 HDO HP HPR HB HBW
        have HSM := Lib.hid (same_any B B g2 room m3 a3 s3 b3 u3 v3 v4 (by have := HM60.out; omega) HRM.out HP3.out.le w3 HP3.out.t HP3.out.q HP3.out.bond)
        go_wp2_with fail
        refine HSM.out.mono ?_
        rintro e w4 ⟨rfl, hb4⟩
        have HP4 := Lib.hid (HP3.out.under hb4)
        have HB4 : Hid (Below B w w4 ∧ B ≤ w4.heap.size) := ⟨HB3.out.1.trans (hb4.mono HB3.out.2), Nat.le_trans HB3.out.2 hb4.size⟩
        clear hb4 HSM HP3 HB3
        have HNR := Lib.hid (near_any B room m3 a3 s3 near (by have := HM60.out; omega) w4 HP4.out.t.at)
        go_wp2_with fail
        refine HNR.out.mono ?_
        rintro e w5 ⟨hb5, hres⟩
        have HP5 := Lib.hid (HP4.out.under hb5)
        have HB5 : Hid (Below B w w5 ∧ B ≤ w5.heap.size) := ⟨HB4.out.1.trans (hb5.mono HB4.out.2), Nat.le_trans HB4.out.2 hb5.size⟩
        have HRS := Lib.hid hres
        clear hb5 hres HNR HP4 HB4
        rcases HRS.out with ⟨p, hp, hpl, rfl⟩ | ⟨hpl, rfl⟩
        · have HPL := Lib.hid hpl
          have HPN := Lib.hid hp
          clear hpl hp HRS
          unfold rowV
          obtain ⟨y, hy⟩ : ∃ y, a3 p = y := ⟨_, rfl⟩
          obtain ⟨z, hz⟩ : ∃ z, s3 p = z := ⟨_, rfl⟩
          have HY := Lib.hid hy
          have HZ := Lib.hid hz
          rw [hy, hz]
          clear hy hz
          have B6 : Below w5.heap.size w5 (w5.alloc (.cells #[.int .i64 y, .string z] 35)) := (Below.refl _ _).alloc (Nat.le_refl _) _
          have HP6 := Lib.hid (HP5.out.under B6)
          have HB6 : Hid (Below B w (w5.alloc (.cells #[.int .i64 y, .string z] 35)) ∧ B ≤ (w5.alloc (.cells #[.int .i64 y, .string z] 35)).heap.size) := ⟨HB5.out.1.trans (B6.mono HB5.out.2), Nat.le_trans HB5.out.2 B6.size⟩
          have HQN := Lib.hid (refnear_any g2 room m3 b3 u3 near (by have := HM60.out; omega) _ HP6.out.q.at)
          have r0 : (w5.alloc (.cells #[.int .i64 y, .string z] 35)).cell? ⟨w5.heap.size, 0, none⟩ = some (.int .i64 y) := by rw [World.cell?_alloc_new]; rfl
          have r1 : (w5.alloc (.cells #[.int .i64 y, .string z] 35)).cell? ⟨w5.heap.size, 1, none⟩ = some (.string z) := by rw [World.cell?_alloc_new]; rfl
          clear B6
          go_wp2_with fail
          refine HQN.out.mono ?_
          rintro e w6 ⟨r6, hl6, rfl, q6, rfl⟩
          rcases near_bound HP6.out.bond HPL.out hl6 with ⟨_, j, rfl, hj, e1, e2⟩ | ⟨e1, _⟩
          · rw [HY.out] at e1
            rw [HZ.out] at e2
            have dj : decide (0 ≤ (j : Int)) = true := decide_eq_true (by omega)
            obtain ⟨ao2, cap2, ev2, hr2⟩ := HP6.out.q.rows.view
            obtain ⟨bq, oq, rfl, _, hcq⟩ := hr2 (by omega)
            have hj2 : (j : Int) < m3 := by omega
            obtain ⟨x3, x4⟩ := hcq j hj
            rw [e1] at x3
            rw [e2] at x4
            have q1 : (w5.alloc (.cells #[.int .i64 y, .string z] 35)).cell? ⟨g2, 1, none⟩ = some (.slice (some ⟨bq, oq, none⟩) m3 cap2) := by simp [World.cell?, HP6.out.q.here, ev2]
            generalize hw7 : World.drewN (w5.alloc (.cells #[.int .i64 y, .string z] 35)) q6 = w7
            have HP7 : Hid (Pair w7 B B g2 room m3 a3 s3 v3 b3 u3 v4) := by rw [← hw7]; exact HP6.out.under (below_drewN (Below.refl _ _) _)
            have HB7 : Hid (Below B w w7 ∧ B ≤ w7.heap.size) := by rw [← hw7]; exact ⟨below_drewN HB6.out.1 _, HB6.out.2⟩
            have y1 : w7.cell? ⟨w5.heap.size, 0, none⟩ = some (.int .i64 y) := by rw [← hw7]; exact r0
            have y2 : w7.cell? ⟨w5.heap.size, 1, none⟩ = some (.string z) := by rw [← hw7]; exact r1
            have y3 : w7.cell? ⟨g2, 1, none⟩ = some (.slice (some ⟨bq, oq, none⟩) m3 cap2) := by rw [← hw7]; exact q1
            have y4 : w7.cell? ⟨bq, oq + j * 2, none⟩ = some (.int .i64 y) := by rw [← hw7]; exact x3
            have y5 : w7.cell? ⟨bq, oq + j * 2 + 1, none⟩ = some (.string z) := by rw [← hw7]; exact x4
            clear hw7 r0 r1 q1 x3 x4 hl6 hcq hr2 ev2 e1 e2 hj HP6 HB6 HQN HP5 HB5
            go_wp2_with fail
            go_quiet (fail)
            go_wp2_with fail
            go_roundw
            case rel => exact ⟨i + 1, by have := HLT.out; omega, by go_num, ⟨m3, a3, s3, v3, b3, u3, v4, HM3.out, HP7.out.under (below_drewN (Below.refl _ _) _)⟩, below_drewN HB7.out.1 _, HB7.out.2⟩
            case measure => have := HLT.out; simp [intOf]; omega
          · exact absurd e1 (by have := HPN.out; omega)
        · have HPL := Lib.hid hpl
          clear hpl HRS
          unfold rowV
          have B6 : Below w5.heap.size w5 (w5.alloc (.cells #[.int .i64 0, .string ⟨#[]⟩] 35)) := (Below.refl _ _).alloc (Nat.le_refl _) _
          have HP6 := Lib.hid (HP5.out.under B6)
          have HB6 : Hid (Below B w (w5.alloc (.cells #[.int .i64 0, .string ⟨#[]⟩] 35)) ∧ B ≤ (w5.alloc (.cells #[.int .i64 0, .string ⟨#[]⟩] 35)).heap.size) := ⟨HB5.out.1.trans (B6.mono HB5.out.2), Nat.le_trans HB5.out.2 B6.size⟩
          have HQN := Lib.hid (refnear_any g2 room m3 b3 u3 near (by have := HM60.out; omega) _ HP6.out.q.at)
          have r0 : (w5.alloc (.cells #[.int .i64 0, .string ⟨#[]⟩] 35)).cell? ⟨w5.heap.size, 0, none⟩ = some (.int .i64 0) := by rw [World.cell?_alloc_new]; rfl
          have r1 : (w5.alloc (.cells #[.int .i64 0, .string ⟨#[]⟩] 35)).cell? ⟨w5.heap.size, 1, none⟩ = some (.string ⟨#[]⟩) := by rw [World.cell?_alloc_new]; rfl
          clear B6
          go_wp2_with fail
          refine HQN.out.mono ?_
          rintro e w6 ⟨r6, hl6, rfl, q6, rfl⟩
          rcases near_bound HP6.out.bond HPL.out hl6 with ⟨e1, _⟩ | ⟨_, rfl⟩
          · exact absurd e1 (by omega)
          · generalize hw7 : World.drewN (w5.alloc (.cells #[.int .i64 0, .string ⟨#[]⟩] 35)) q6 = w7
            have HP7 : Hid (Pair w7 B B g2 room m3 a3 s3 v3 b3 u3 v4) := by rw [← hw7]; exact HP6.out.under (below_drewN (Below.refl _ _) _)
            have HB7 : Hid (Below B w w7 ∧ B ≤ w7.heap.size) := by rw [← hw7]; exact ⟨below_drewN HB6.out.1 _, HB6.out.2⟩
            have y1 : w7.cell? ⟨w5.heap.size, 0, none⟩ = some (.int .i64 0) := by rw [← hw7]; exact r0
            have y2 : w7.cell? ⟨w5.heap.size, 1, none⟩ = some (.string ⟨#[]⟩) := by rw [← hw7]; exact r1
            clear hw7 r0 r1 hl6 HP6 HB6 HQN HP5 HB5
            go_wp2_with fail
            go_quiet (fail)
            go_wp2_with fail
            go_roundw
            case rel => exact ⟨i + 1, by have := HLT.out; omega, by go_num, ⟨m3, a3, s3, v3, b3, u3, v4, HM3.out, HP7.out.under (below_drewN (Below.refl _ _) _)⟩, below_drewN HB7.out.1 _, HB7.out.2⟩
            case measure => have := HLT.out; simp [intOf]; omega
    · obtain rfl : i = n := by omega
      clear hlt hi HP
      go_wp2_with fail
      refine (HA.out _).mono ?_
      rintro e w3 ⟨rfl, h3⟩
      have HB3 : Hid (Below w.heap.size w w3) := HBW.out.trans (h3.mono HBW.out.size)
      clear h3
      go_wp2
      go_ret
      exact ⟨rfl, HB3.out⟩
end Go.Proofs.Ytmepaeppkeaifaa
