/- The law's helper fair. -/
import Derived.Test.YtncbieaobadekaaShareRef3
import Derived.Deep.DeepCutAuto
import Derived.IntWalk
import Derived.Deep.RegionWith
import Derived.Deep.RegionHeld3
namespace Go.Proofs.Ytncbieaobadekaa
open Go.ChangeShapes Go.WideShapes Go.ChangeAt Go.RowKit
set_option linter.unusedSimpArgs false
/-- The eight cells of a box. -/
def Cells8 (w : World) (k : Nat) (d0 d1 d2 d3 d4 d5 d6 d7 : Nat) : Prop := w.cell? ⟨k, 0, none⟩ = some (.int .u64 (d0 : Nat)) ∧ w.cell? ⟨k, 1, none⟩ = some (.int .u64 (d1 : Nat)) ∧ w.cell? ⟨k, 2, none⟩ = some (.int .u64 (d2 : Nat)) ∧ w.cell? ⟨k, 3, none⟩ = some (.int .u64 (d3 : Nat)) ∧ w.cell? ⟨k, 4, none⟩ = some (.int .u64 (d4 : Nat)) ∧ w.cell? ⟨k, 5, none⟩ = some (.int .u64 (d5 : Nat)) ∧ w.cell? ⟨k, 6, none⟩ = some (.int .u64 (d6 : Nat)) ∧ w.cell? ⟨k, 7, none⟩ = some (.int .u64 (d7 : Nat))
theorem old_cells {W w1 : World} (h : Below W.heap.size W w1) : (∀ b o, b < W.heap.size → w1.cell? ⟨b, o, none⟩ = W.cell? ⟨b, o, none⟩) ∧ (∀ b o, b < W.heap.size → w1.frozen? ⟨b, o, none⟩ = W.frozen? ⟨b, o, none⟩) :=
  ⟨fun _ _ l => h.cell (p := ⟨_, _, none⟩) l, fun _ _ l => h.frozen (p := ⟨_, _, none⟩) l⟩
/-- A block of eight noughts. -/
def Zeros (w : World) (k : Nat) : Prop := ∀ i, i < 8 → w.cell? ⟨k, i, none⟩ = some (.int .u64 0)
theorem Zeros.get {w : World} {k : Nat} (h : Zeros w k) : w.cell? ⟨k, 0, none⟩ = some (.int .u64 0) ∧ w.cell? ⟨k, 1, none⟩ = some (.int .u64 0) ∧ w.cell? ⟨k, 2, none⟩ = some (.int .u64 0) ∧ w.cell? ⟨k, 3, none⟩ = some (.int .u64 0) ∧ w.cell? ⟨k, 4, none⟩ = some (.int .u64 0) ∧ w.cell? ⟨k, 5, none⟩ = some (.int .u64 0) ∧ w.cell? ⟨k, 6, none⟩ = some (.int .u64 0) ∧ w.cell? ⟨k, 7, none⟩ = some (.int .u64 0) :=
  ⟨h 0 (by omega), h 1 (by omega), h 2 (by omega), h 3 (by omega), h 4 (by omega), h 5 (by omega), h 6 (by omega), h 7 (by omega)⟩
theorem eight_of {i : Nat} (h : i < 8) : i = 0 ∨ i = 1 ∨ i = 2 ∨ i = 3 ∨ i = 4 ∨ i = 5 ∨ i = 6 ∨ i = 7 := by omega
theorem Cells8.call {W w' : World} {k d0 d1 d2 d3 d4 d5 d6 d7 : Nat} (h : ∀ b o, b < W.heap.size → w'.cell? ⟨b, o, none⟩ = W.cell? ⟨b, o, none⟩) (hk : k < W.heap.size) (c : Cells8 W k d0 d1 d2 d3 d4 d5 d6 d7) : Cells8 w' k d0 d1 d2 d3 d4 d5 d6 d7 :=
  ⟨(h k 0 hk).trans c.1, (h k 1 hk).trans c.2.1, (h k 2 hk).trans c.2.2.1, (h k 3 hk).trans c.2.2.2.1, (h k 4 hk).trans c.2.2.2.2.1, (h k 5 hk).trans c.2.2.2.2.2.1, (h k 6 hk).trans c.2.2.2.2.2.2.1, (h k 7 hk).trans c.2.2.2.2.2.2.2⟩
theorem Cells8.alloc {w : World} {k d0 d1 d2 d3 d4 d5 d6 d7 : Nat} (ob : Obj) (hk : k < w.heap.size) (c : Cells8 w k d0 d1 d2 d3 d4 d5 d6 d7) : Cells8 (w.alloc ob) k d0 d1 d2 d3 d4 d5 d6 d7 :=
  c.call (fun b o hb => World.cell?_alloc_past _ _ _ (by first | exact hb | exact Nat.ne_of_lt hb)) hk
theorem Cells8.drew {w : World} {k d0 d1 d2 d3 d4 d5 d6 d7 : Nat} (c : Cells8 w k d0 d1 d2 d3 d4 d5 d6 d7) : Cells8 w.drew k d0 d1 d2 d3 d4 d5 d6 d7 := c
theorem Zeros.call {W w' : World} {k : Nat} (h : ∀ b o, b < W.heap.size → w'.cell? ⟨b, o, none⟩ = W.cell? ⟨b, o, none⟩) (hk : k < W.heap.size) (c : Zeros W k) : Zeros w' k := fun i hi => (h k i hk).trans (c i hi)
theorem Zeros.fresh {w : World} {k ty : Nat} (hk : k = w.heap.size) : Zeros (w.alloc (.cells #[.int .u64 0, .int .u64 0, .int .u64 0, .int .u64 0, .int .u64 0, .int .u64 0, .int .u64 0, .int .u64 0] ty)) k := by
  subst hk
  intro i hi
  rcases eight_of hi with rfl | rfl | rfl | rfl | rfl | rfl | rfl | rfl <;> (simp [go_sem]; done)
def FairA (w : World) (x0 x1 x2 x3 x4 x5 x6 x7 o0 o1 o2 o3 o4 o5 o6 o7 : Nat) (s9 s10 : Value) (wx : World) : Prop := ∃ k9 k10 : Nat, s9 = .pointer (some ⟨k9, 0, none⟩) ∧ s10 = .pointer (some ⟨k10, 0, none⟩) ∧ k9 < wx.heap.size ∧ k10 < wx.heap.size ∧ Cells8 wx k9 x0 x1 x2 x3 x4 x5 x6 x7 ∧ Cells8 wx k10 o0 o1 o2 o3 o4 o5 o6 o7 ∧ Below w.heap.size w wx
def FairB (w : World) (k9 : Nat) (x0 x1 x2 x3 x4 x5 x6 x7 m0 m1 m2 m3 m4 m5 m6 m7 : Nat) (s11 s12 : Value) (wx : World) : Prop := ∃ k11 : Nat, s11 = .pointer (some ⟨k11, 0, none⟩) ∧ s12 = .bool true ∧ k9 < wx.heap.size ∧ k11 < wx.heap.size ∧ Cells8 wx k9 x0 x1 x2 x3 x4 x5 x6 x7 ∧ Cells8 wx k11 m0 m1 m2 m3 m4 m5 m6 m7 ∧ Below w.heap.size w wx
theorem numV_digs (N : Nat) : ∃ d0 d1 d2 d3 d4 d5 d6 d7 : Nat, numV N = .agg #[.int .u64 d0, .int .u64 d1, .int .u64 d2, .int .u64 d3, .int .u64 d4, .int .u64 d5, .int .u64 d6, .int .u64 d7] := ⟨_, _, _, _, _, _, _, _, rfl⟩
set_option maxRecDepth 100000 in
set_option maxHeartbeats 40000000 in
theorem fair_down (p a y s : Nat) (hp : p ≤ 9223372036854775807) (ha : a ≤ 9223372036854775807) (hy : y ≤ 9223372036854775807) (hs : s ≤ 9223372036854775807) (h1 : p * s ≤ a * y) (h2 : a * y < p * s + s) (w : World) :
    Calls Try.prog 20 #[.int .i64 p, .int .i64 a, .int .i64 y, .int .i64 s] w (Ret (.bool true) w) := by
  have hX : a * y < 340282366920938463463374607431768211456 := mul_lt (by omega) (by omega)
  have hO : p * s < 340282366920938463463374607431768211456 := mul_lt (by omega) (by omega)
  have hM : p * s + s < 340282366920938463463374607431768211456 := by
    have : p * s ≤ 9223372036854775807 * 9223372036854775807 := Nat.mul_le_mul hp hs
    omega
  have HX := Lib.hid (fun (w : World) => mul_any a y (by omega) (by omega) w)
  have HO := Lib.hid (fun (w : World) => mul_any p s (by omega) (by omega) w)
  have HC : Hid (∃ c : Int, c ≤ 0 ∧ ∀ w : World, Calls Try.prog 56 #[numV (p * s), numV (a * y)] w (Ret (.int .i64 c) w)) := ⟨cmpN (p * s) (a * y), by unfold cmpN; split; decide; rw [if_neg (by omega)]; decide, fun w => cmp_any _ _ hO hX w⟩
  have HF := Lib.hid (fun (w : World) => of_lo s (by omega) w)
  have HP : Hid (∀ w : World, Calls Try.prog 57 #[numV (p * s), numV s] w (Ret (.tuple #[numV (p * s + s), .bool true]) w)) := fun w => by
    have := plus_any (p * s) s hO (by omega) w
    rwa [decide_eq_true hM] at this
  have HD : Hid (∀ w : World, Calls Try.prog 56 #[numV (p * s + s), numV (a * y)] w (Ret (.int .i64 1) w)) := fun w => by
    have := cmp_any (p * s + s) (a * y) hM hX w
    rwa [cmpN_gt h2] at this
  obtain ⟨x0, x1, x2, x3, x4, x5, x6, x7, ex⟩ := numV_digs (a * y)
  obtain ⟨o0, o1, o2, o3, o4, o5, o6, o7, eo⟩ := numV_digs (p * s)
  obtain ⟨m0, m1, m2, m3, m4, m5, m6, m7, em⟩ := numV_digs (p * s + s)
  obtain ⟨s0, s1, s2, s3, s4, s5, s6, s7, es⟩ := numV_digs s
  rw [ex] at HX HC HD
  rw [eo] at HO HC HP
  rw [es] at HF HP
  rw [em] at HP HD
  have b1 : (p : Int) ≤ 9223372036854775807 := by omega
  have b2 : (a : Int) ≤ 9223372036854775807 := by omega
  have b3 : (y : Int) ≤ 9223372036854775807 := by omega
  have b4 : (s : Int) ≤ 9223372036854775807 := by omega
  have dp : decide ((p : Int) < 0) = false := decide_eq_false (by omega)
  clear hX hO hM h1 h2 ex eo em es hp ha hy hs
  obtain ⟨c, hc0, HCC⟩ := HC.out
  have HCC := Lib.hid HCC
  clear HC
  have dc : decide (c ≤ 0) = true := decide_eq_true hc0
  clear hc0
  go_enter Try.func20, Try.ntmps20
  go_wp2_with fail
  refine (HX.out _).mono ?_
  rintro e w1 ⟨rfl, h1⟩
  have H1 := Lib.hid h1
  have hs1 := h1.size
  clear h1
  go_upto_region 4 with fail
  go_cut [9, 10] (fun s9 s10 wx => FairA w x0 x1 x2 x3 x4 x5 x6 x7 o0 o1 o2 o3 o4 o5 o6 o7 s9 s10 wx)
  case first =>
    go_wp2_with fail
    refine (HO.out _).mono ?_
    rintro e w2 ⟨rfl, h2⟩
    have H2 := Lib.hid h2
    have hs2 := h2.size
    obtain ⟨hc2, hf2⟩ := old_cells h2
    clear h2
    go_wp2_with fail
    go_meet
    rw [World.size_alloc] at hc2 hs2
    refine ⟨_, _, rfl, rfl, ?_, ?_, ?_, ?_, ?_⟩
    · simp; omega
    · simp
    · refine ⟨?_, ?_, ?_, ?_, ?_, ?_, ?_, ?_⟩ <;> (simp (disch := first | omega | (simp; done) | (simp; omega)) only [World.cell?_alloc_past]; rw [hc2 _ _ (by omega)]; simp [go_sem]; done)
    · refine ⟨?_, ?_, ?_, ?_, ?_, ?_, ?_, ?_⟩ <;> (simp [go_sem]; done)
    · exact (H1.out.trans (Below.trans (by go_grown) (H2.out.mono (by simp; omega)))).trans (by go_grown)
  case rest =>
    obtain ⟨k9, k10, rfl, rfl, z9, z10, ⟨c0, c1, c2, c3, c4, c5, c6, c7⟩, ⟨d0, d1, d2, d3, d4, d5, d6, d7⟩, hB⟩ := hcut
    have HB := Lib.hid hB
    clear hB H1 hs1
    go_wp2_with fail
    refine (HCC.out _).mono ?_
    rintro e w3 ⟨rfl, h3⟩
    have H3 := Lib.hid h3
    have hs3 := h3.size
    obtain ⟨hc3, hf3⟩ := old_cells h3
    have E3 := Cells8.call hc3 z9 ⟨c0, c1, c2, c3, c4, c5, c6, c7⟩
    have G3 := Cells8.call hc3 z10 ⟨d0, d1, d2, d3, d4, d5, d6, d7⟩
    obtain ⟨g0, g1, g2, g3, g4, g5, g6, g7⟩ := id G3
    have y9 : k9 < w3.heap.size := by omega
    have y10 : k10 < w3.heap.size := by omega
    have B3 := Lib.hid (HB.out.trans (h3.mono HB.out.size))
    clear h3 hc3 hf3 H3 c0 c1 c2 c3 c4 c5 c6 c7 d0 d1 d2 d3 d4 d5 d6 d7 HB hs3 z9 z10
    go_upto_region 6 with fail
    clear HX HO HCC
    have hw3 := B3.out.size
    have q1 : IntKind.u64.wrap (s : Int) = s := IntWalk.u64_in _ (by omega)
    go_cut [11, 12] (fun s11 s12 wx => FairB w k9 x0 x1 x2 x3 x4 x5 x6 x7 m0 m1 m2 m3 m4 m5 m6 m7 s11 s12 wx)
    case first =>
      go_region_held3 (fun w' => w'.cell? ⟨k10, 0, none⟩ = some (.int .u64 (o0 : Nat)) ∧ w'.cell? ⟨k10, 1, none⟩ = some (.int .u64 (o1 : Nat)) ∧ w'.cell? ⟨k10, 2, none⟩ = some (.int .u64 (o2 : Nat)) ∧ w'.cell? ⟨k10, 3, none⟩ = some (.int .u64 (o3 : Nat)) ∧ w'.cell? ⟨k10, 4, none⟩ = some (.int .u64 (o4 : Nat)) ∧ w'.cell? ⟨k10, 5, none⟩ = some (.int .u64 (o5 : Nat)) ∧ w'.cell? ⟨k10, 6, none⟩ = some (.int .u64 (o6 : Nat)) ∧ w'.cell? ⟨k10, 7, none⟩ = some (.int .u64 (o7 : Nat))) (first | (refine ⟨?_, ?_, ?_, ?_, ?_, ?_, ?_, ?_⟩ <;> ((try simp (disch := first | omega | (simp; done) | (simp; omega)) only [World.cell?_alloc_past, World.cell?_drew, World.cell?_setCell_far]); with_reducible assumption)) | (go_keep; done)) (first | (go_at_call 58; refine (HF.out _).mono ?_; clear q1; rintro e w4 ⟨rfl, h4⟩; obtain ⟨hc4, hf4⟩ := old_cells h4; (have hs4 := h4.size; (try simp at hs4)); (have y94 : k9 < w4.heap.size := (by omega)); (have y104 : k10 < w4.heap.size := (by omega)); (try have u4 : w3.heap.size < w4.heap.size := (by omega)); (have B4 := Lib.hid (B3.out.trans (Below.trans (by go_grown) (h4.mono (by first | omega | (simp; done) | (simp; omega)))))); (have hw4 := B4.out.size); (have E4 : Cells8 w4 k9 x0 x1 x2 x3 x4 x5 x6 x7 := Cells8.call hc4 (by first | omega | (simp; omega)) (by repeat (first | with_reducible exact E3 | with_reducible refine Cells8.drew ?_ | with_reducible refine Cells8.alloc _ (by first | omega | (simp; omega)) ?_))); (have G4 : Cells8 w4 k10 o0 o1 o2 o3 o4 o5 o6 o7 := Cells8.call hc4 (by first | omega | (simp; omega)) (by repeat (first | with_reducible exact G3 | with_reducible refine Cells8.drew ?_ | with_reducible refine Cells8.alloc _ (by first | omega | (simp; omega)) ?_))); obtain ⟨q0, q1, q2, q3, q4, q5, q6, q7⟩ := id G4; (try (have zz4 : Zeros w4 w3.heap.size := Zeros.call hc4 (by first | (simp; done) | (simp; omega)) (Zeros.fresh (by simp)))); (try clear hc4); (try clear h4); skip) | (go_at_call 57; refine (HP.out _).mono ?_; rintro e w5 ⟨rfl, h5⟩; obtain ⟨hc5, hf5⟩ := old_cells h5; (have hs5 := h5.size; (try simp at hs5)); (have y95 : k9 < w5.heap.size := (by omega)); (have y105 : k10 < w5.heap.size := (by omega)); (try have u5 : w3.heap.size < w5.heap.size := (by omega)); (try have v5 : w4.heap.size < w5.heap.size := (by omega)); (have B5 := Lib.hid (B4.out.trans (Below.trans (by go_grown) (h5.mono (by first | omega | (simp; done) | (simp; omega)))))); (have E5 : Cells8 w5 k9 x0 x1 x2 x3 x4 x5 x6 x7 := Cells8.call hc5 (by first | omega | (simp; omega)) (by repeat (first | with_reducible exact E4 | with_reducible refine Cells8.drew ?_ | with_reducible refine Cells8.alloc _ (by first | omega | (simp; omega)) ?_))); (have G5 : Cells8 w5 k10 o0 o1 o2 o3 o4 o5 o6 o7 := Cells8.call hc5 (by first | omega | (simp; omega)) (by repeat (first | with_reducible exact G4 | with_reducible refine Cells8.drew ?_ | with_reducible refine Cells8.alloc _ (by first | omega | (simp; omega)) ?_))); obtain ⟨t0, t1, t2, t3, t4, t5, t6, t7⟩ := id G5; (try (have zz5 : Zeros w5 w3.heap.size := Zeros.call hc5 (by first | omega | (simp; omega)) zz4; obtain ⟨zz50, zz51, zz52, zz53, zz54, zz55, zz56, zz57⟩ := zz5.get)); (try (have zz6 : Zeros w5 w4.heap.size := Zeros.call hc5 (by first | (simp; done) | (simp; omega)) (Zeros.fresh (by simp)); obtain ⟨zz60, zz61, zz62, zz63, zz64, zz65, zz66, zz67⟩ := zz6.get)); (try clear hc5); (try clear h5); skip))
      all_goals
        go_wp2_with fail
        go_meet
        obtain ⟨r0, r1, r2, r3, r4, r5, r6, r7⟩ := E5
        have b5 := B5.out
        refine ⟨_, rfl, rfl, ?_, ?_, ⟨?_, ?_, ?_, ?_, ?_, ?_, ?_, ?_⟩, ⟨?_, ?_, ?_, ?_, ?_, ?_, ?_, ?_⟩, ?_⟩
        · simp; try omega
        · simp; try omega
        iterate 8
          · (try simp (disch := first | omega | (simp; done) | (simp; omega)) only [World.cell?_alloc_past, World.cell?_drew, World.cell?_setCell_far])
            with_reducible assumption
        iterate 8
          · simp [go_sem, *]
        · go_grown
    case rest =>
      obtain ⟨k11, rfl, rfl, z9, z11, ⟨c0, c1, c2, c3, c4, c5, c6, c7⟩, ⟨d0, d1, d2, d3, d4, d5, d6, d7⟩, hB⟩ := hcut
      have HB := Lib.hid hB
      clear hB B3 HP HF E3 G3 g0 g1 g2 g3 g4 g5 g6 g7 q1
      go_wp2_with fail
      refine (HD.out _).mono ?_
      rintro e w4 ⟨rfl, h4⟩
      have H4 := Lib.hid h4
      clear h4
      go_wp2_with fail
      go_returns
      exact ⟨rfl, HB.out.trans (H4.out.mono HB.out.size)⟩
set_option maxRecDepth 100000 in
set_option maxHeartbeats 40000000 in
theorem fair_up (p a y s : Nat) (hp : p ≤ 9223372036854775807) (ha : a ≤ 9223372036854775807) (hy : y ≤ 9223372036854775807) (hs : s ≤ 9223372036854775807) (h0 : 0 < p) (h1 : a * y < p * s) (h2 : (p - 1) * s < a * y) (w : World) :
    Calls Try.prog 20 #[.int .i64 p, .int .i64 a, .int .i64 y, .int .i64 s] w (Ret (.bool true) w) := by
  have hX : a * y < 340282366920938463463374607431768211456 := mul_lt (by omega) (by omega)
  have hO : p * s < 340282366920938463463374607431768211456 := mul_lt (by omega) (by omega)
  have hM : (p - 1) * s < 340282366920938463463374607431768211456 := by
    have : (p - 1) * s ≤ 9223372036854775807 * 9223372036854775807 := Nat.mul_le_mul (by omega) hs
    omega
  have HX := Lib.hid (fun (w : World) => mul_any a y (by omega) (by omega) w)
  have HO := Lib.hid (fun (w : World) => mul_any p s (by omega) (by omega) w)
  have HCC := Lib.hid (fun (w : World) => by
    have := cmp_any (p * s) (a * y) hO hX w
    rwa [cmpN_gt h1] at this)
  have HM := Lib.hid (fun (w : World) => mul_any (p - 1) s (by omega) (by omega) w)
  have HD : Hid (∀ w : World, Calls Try.prog 56 #[numV ((p - 1) * s), numV (a * y)] w (Ret (.int .i64 (-1)) w)) := fun w => by
    have := cmp_any ((p - 1) * s) (a * y) hM hX w
    rwa [cmpN_lt h2] at this
  obtain ⟨x0, x1, x2, x3, x4, x5, x6, x7, ex⟩ := numV_digs (a * y)
  obtain ⟨o0, o1, o2, o3, o4, o5, o6, o7, eo⟩ := numV_digs (p * s)
  obtain ⟨m0, m1, m2, m3, m4, m5, m6, m7, em⟩ := numV_digs ((p - 1) * s)
  rw [ex] at HX HCC HD
  rw [eo] at HO HCC
  rw [em] at HM HD
  have b1 : (p : Int) ≤ 9223372036854775807 := by omega
  have b2 : (a : Int) ≤ 9223372036854775807 := by omega
  have b3 : (y : Int) ≤ 9223372036854775807 := by omega
  have b4 : (s : Int) ≤ 9223372036854775807 := by omega
  have dp : decide ((p : Int) < 0) = false := decide_eq_false (by omega)
  have dq : decide (0 < (p : Int)) = true := decide_eq_true (by omega)
  have hq : (p : Int) - 1 = ((p - 1 : Nat) : Int) := by omega
  have b5 : (0 : Int) < p := by omega
  clear hX hO hM h1 h2 ex eo em hp ha hy hs h0
  go_enter Try.func20, Try.ntmps20
  go_wp2_with fail
  refine (HX.out _).mono ?_
  rintro e w1 ⟨rfl, h1⟩
  have H1 := Lib.hid h1
  have hs1 := h1.size
  clear h1
  go_upto_region 4 with fail
  go_cut [9, 10] (fun s9 s10 wx => FairA w x0 x1 x2 x3 x4 x5 x6 x7 o0 o1 o2 o3 o4 o5 o6 o7 s9 s10 wx)
  case first =>
    go_wp2_with fail
    refine (HO.out _).mono ?_
    rintro e w2 ⟨rfl, h2⟩
    have H2 := Lib.hid h2
    have hs2 := h2.size
    obtain ⟨hc2, hf2⟩ := old_cells h2
    clear h2
    go_wp2_with fail
    go_meet
    rw [World.size_alloc] at hc2 hs2
    refine ⟨_, _, rfl, rfl, ?_, ?_, ?_, ?_, ?_⟩
    · simp; omega
    · simp
    · refine ⟨?_, ?_, ?_, ?_, ?_, ?_, ?_, ?_⟩ <;> (simp (disch := first | omega | (simp; done) | (simp; omega)) only [World.cell?_alloc_past]; rw [hc2 _ _ (by omega)]; simp [go_sem]; done)
    · refine ⟨?_, ?_, ?_, ?_, ?_, ?_, ?_, ?_⟩ <;> (simp [go_sem]; done)
    · exact (H1.out.trans (Below.trans (by go_grown) (H2.out.mono (by simp; omega)))).trans (by go_grown)
  case rest =>
    obtain ⟨k9, k10, rfl, rfl, z9, z10, ⟨c0, c1, c2, c3, c4, c5, c6, c7⟩, ⟨d0, d1, d2, d3, d4, d5, d6, d7⟩, hB⟩ := hcut
    have HB := Lib.hid hB
    clear hB H1 hs1
    go_wp2_with fail
    refine (HCC.out _).mono ?_
    rintro e w3 ⟨rfl, h3⟩
    have H3 := Lib.hid h3
    have hs3 := h3.size
    obtain ⟨hc3, hf3⟩ := old_cells h3
    have e0 := (hc3 k9 0 z9).trans c0
    have e1 := (hc3 k9 1 z9).trans c1
    have e2 := (hc3 k9 2 z9).trans c2
    have e3 := (hc3 k9 3 z9).trans c3
    have e4 := (hc3 k9 4 z9).trans c4
    have e5 := (hc3 k9 5 z9).trans c5
    have e6 := (hc3 k9 6 z9).trans c6
    have e7 := (hc3 k9 7 z9).trans c7
    have g0 := (hc3 k10 0 z10).trans d0
    have g1 := (hc3 k10 1 z10).trans d1
    have g2 := (hc3 k10 2 z10).trans d2
    have g3 := (hc3 k10 3 z10).trans d3
    have g4 := (hc3 k10 4 z10).trans d4
    have g5 := (hc3 k10 5 z10).trans d5
    have g6 := (hc3 k10 6 z10).trans d6
    have g7 := (hc3 k10 7 z10).trans d7
    have y9 : k9 < w3.heap.size := by omega
    have y10 : k10 < w3.heap.size := by omega
    have B3 := Lib.hid (HB.out.trans (h3.mono HB.out.size))
    clear h3 hc3 hf3 H3 c0 c1 c2 c3 c4 c5 c6 c7 d0 d1 d2 d3 d4 d5 d6 d7 HB hs3 z9 z10
    clear HX HO HCC
    go_wp2_with fail
    refine (HM.out _).mono ?_
    rintro e w4 ⟨rfl, h4⟩
    obtain ⟨hc4, hf4⟩ := old_cells h4
    have hs4 := h4.size
    have B4 := Lib.hid (B3.out.trans (h4.mono B3.out.size))
    have p0 := (hc4 k9 0 y9).trans e0
    have p1 := (hc4 k9 1 y9).trans e1
    have p2 := (hc4 k9 2 y9).trans e2
    have p3 := (hc4 k9 3 y9).trans e3
    have p4 := (hc4 k9 4 y9).trans e4
    have p5 := (hc4 k9 5 y9).trans e5
    have p6 := (hc4 k9 6 y9).trans e6
    have p7 := (hc4 k9 7 y9).trans e7
    have y94 : k9 < w4.heap.size := by omega
    clear h4 hc4 hf4 B3 e0 e1 e2 e3 e4 e5 e6 e7 g0 g1 g2 g3 g4 g5 g6 g7 HM
    go_wp2_with fail
    refine (HD.out _).mono ?_
    rintro e w5 ⟨rfl, h5⟩
    have H5 := Lib.hid h5
    clear h5
    go_wp2_with fail
    go_returns
    have hw4 := B4.out.size
    exact ⟨rfl, B4.out.trans (Below.trans (by go_grown) (H5.out.mono (by simp; omega)))⟩
/-- fair of a part that is rounded down, or up where something is left. -/
theorem fair_part (p a y s : Nat) (hp : p ≤ 9223372036854775807) (ha : a ≤ 9223372036854775807) (hy : y ≤ 9223372036854775807) (hs : s ≤ 9223372036854775807) (s0 : 0 < s) (h : p = a * y / s ∨ (p = a * y / s + 1 ∧ 0 < a * y % s)) (w : World) :
    Calls Try.prog 20 #[.int .i64 p, .int .i64 a, .int .i64 y, .int .i64 s] w (Ret (.bool true) w) := by
  have e := Nat.div_add_mod (a * y) s
  have l := Nat.mod_lt (a * y) s0
  generalize hX : a * y = X at h e l
  generalize X / s = q at h e
  generalize X % s = r at h e l
  rw [Nat.mul_comm] at e
  rcases h with rfl | ⟨rfl, h1⟩
  · exact fair_down p a y s hp ha hy hs (by omega) (by omega) w
  · refine fair_up (q + 1) a y s hp ha hy hs (by omega) ?_ ?_ w
    · rw [Nat.add_mul]; omega
    · rw [Nat.add_sub_cancel]; omega
end Go.Proofs.Ytncbieaobadekaa
