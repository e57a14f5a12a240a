/- WideMuls's walk. -/
import Derived.Test.YtphjpbfahlhliaaWideSame
import Derived.Deep.DeepCutAuto
import Derived.Deep.RegionWith
import Derived.Deep.RegionHeld3
namespace Go.Proofs.Ytphjpbfahlhliaa
open Go.ChangeShapes Go.WideShapes Go.ChangeAt Go.RowKit
set_option linter.unusedSimpArgs false
/-- The eight cells of a number's block. -/
def Has8 (w : World) (k N : Nat) : Prop := ∀ i, i < 8 → w.cell? ⟨k, i, none⟩ = some (.int .u64 (dg N i : Nat))
theorem Has8.get {w : World} {k N : Nat} (h : Has8 w k N) : w.cell? ⟨k, 0, none⟩ = some (.int .u64 (dg N 0 : Nat)) ∧ w.cell? ⟨k, 1, none⟩ = some (.int .u64 (dg N 1 : Nat)) ∧ w.cell? ⟨k, 2, none⟩ = some (.int .u64 (dg N 2 : Nat)) ∧ w.cell? ⟨k, 3, none⟩ = some (.int .u64 (dg N 3 : Nat)) ∧ w.cell? ⟨k, 4, none⟩ = some (.int .u64 (dg N 4 : Nat)) ∧ w.cell? ⟨k, 5, none⟩ = some (.int .u64 (dg N 5 : Nat)) ∧ w.cell? ⟨k, 6, none⟩ = some (.int .u64 (dg N 6 : Nat)) ∧ w.cell? ⟨k, 7, none⟩ = some (.int .u64 (dg N 7 : Nat)) :=
  ⟨h 0 (by omega), h 1 (by omega), h 2 (by omega), h 3 (by omega), h 4 (by omega), h 5 (by omega), h 6 (by omega), h 7 (by omega)⟩
/-- A block of eight noughts. -/
def Zeros (w : World) (k : Nat) : Prop := ∀ i, i < 8 → w.cell? ⟨k, i, none⟩ = some (.int .u64 0)
theorem Zeros.get {w : World} {k : Nat} (h : Zeros w k) : w.cell? ⟨k, 0, none⟩ = some (.int .u64 0) ∧ w.cell? ⟨k, 1, none⟩ = some (.int .u64 0) ∧ w.cell? ⟨k, 2, none⟩ = some (.int .u64 0) ∧ w.cell? ⟨k, 3, none⟩ = some (.int .u64 0) ∧ w.cell? ⟨k, 4, none⟩ = some (.int .u64 0) ∧ w.cell? ⟨k, 5, none⟩ = some (.int .u64 0) ∧ w.cell? ⟨k, 6, none⟩ = some (.int .u64 0) ∧ w.cell? ⟨k, 7, none⟩ = some (.int .u64 0) :=
  ⟨h 0 (by omega), h 1 (by omega), h 2 (by omega), h 3 (by omega), h 4 (by omega), h 5 (by omega), h 6 (by omega), h 7 (by omega)⟩
theorem eight_of {i : Nat} (h : i < 8) : i = 0 ∨ i = 1 ∨ i = 2 ∨ i = 3 ∨ i = 4 ∨ i = 5 ∨ i = 6 ∨ i = 7 := by omega
def MulsCut (w : World) (x y p q : Nat) (s7 s8 : Value) (wx : World) : Prop := ∃ k7 k8 : Nat, s7 = .pointer (some ⟨k7, 0, none⟩) ∧ s8 = .pointer (some ⟨k8, 0, none⟩) ∧ k7 < wx.heap.size ∧ k8 < wx.heap.size ∧ Has8 wx k7 p ∧ Has8 wx k8 q ∧ w.heap.size < wx.heap.size ∧ wx.cell? ⟨w.heap.size, 0, none⟩ = some (.int .u64 (x : Nat)) ∧ wx.cell? ⟨w.heap.size, 1, none⟩ = some (.int .u64 (y : Nat)) ∧ Below w.heap.size w wx
set_option maxHeartbeats 20000000 in
theorem muls_walk (a b x y : Nat) (ha : a < 18446744073709551616) (hb : b < 18446744073709551616) (hx : x < 18446744073709551616) (hy : y < 18446744073709551616) (w : World) :
    Calls Try.prog 3 #[.int .u64 a, .int .u64 b, .agg #[.int .u64 x, .int .u64 y]] w fun e w' => e = .returned (.bool true) ∧ Below w.heap.size w w' := by
  have H1 := Lib.hid (fun (w : World) => mul_any a b ha hb w)
  have H2 := Lib.hid (fun (w : World) => mul_any x y hx hy w)
  have H3 := Lib.hid (fun (w : World) => wmul_any a b ha hb w)
  have H4 := Lib.hid (fun (w : World) => same_yes (a * b) (mul_lt ha hb) w)
  have H5 := Lib.hid (fun (w : World) => less_any a b x y ha hb hx hy w)
  have H6 := Lib.hid (fun (w : World) => cmp_any (a * b) (x * y) (mul_lt ha hb) (mul_lt hx hy) w)
  generalize wv (a * b) = W at H3 H4
  generalize cmpN (a * b) (x * y) = z at H5 H6
  unfold numV at H4 H6
  have g1 : (z == z) = true := by rw [beq_iff_eq]
  clear ha hb hx hy
  go_enter Try.func3, Try.ntmps3
  go_upto_region 1 with fail
  go_cut [7, 8] (fun s7 s8 wx => MulsCut w x y (a * b) (x * y) s7 s8 wx)
  case first =>
    have s0 : (w.alloc (.cells #[.int .u64 x, .int .u64 y] 23)).cell? ⟨w.heap.size, 0, none⟩ = some (.int .u64 (x : Nat)) := by go_cell
    have s1 : (w.alloc (.cells #[.int .u64 x, .int .u64 y] 23)).cell? ⟨w.heap.size, 1, none⟩ = some (.int .u64 (y : Nat)) := by go_cell
    go_region_held3 (fun w' => w'.cell? ⟨w.heap.size, 0, none⟩ = some (.int .u64 (x : Nat)) ∧ w'.cell? ⟨w.heap.size, 1, none⟩ = some (.int .u64 (y : Nat))) (first | (go_keep; done) | (refine And.intro ?_ ?_ <;> ((try simp (disch := first | omega | (simp; done) | (simp; omega)) only [World.cell?_alloc_past, World.cell?_drew, World.cell?_setCell_far]); (first | with_reducible exact s0 | with_reducible exact s1 | with_reducible exact ta3 | with_reducible exact tb3 | with_reducible exact ta4 | with_reducible exact tb4)))) (first | (go_at_call_of 7 (Value.int IntKind.u64 (a : Int)); refine (H1.out _).mono ?_; rintro e w3 ⟨rfl, h3⟩; obtain ⟨hc3, hf3⟩ := old_cells h3; (have hs := h3.size; simp at hs; have hz3 : w.heap.size < w3.heap.size := (by omega)); (try have hy3 : w.heap.size + 1 < w3.heap.size := (by omega)); (try have hv3 : w.heap.size + 1 + 1 < w3.heap.size := (by omega)); (have hb3 : Below w.heap.size w w3 := (Below.trans (by go_grown) (h3.mono (by first | omega | (simp; done) | (simp; omega))))); (have ta3 : w3.cell? ⟨w.heap.size, 0, none⟩ = some (.int .u64 (x : Nat)) := (by (rw [hc3 _ _ (by first | omega | (simp; done) | (simp; omega))]; (try simp (disch := first | omega | (simp; done) | (simp; omega)) only [World.cell?_alloc_past, World.cell?_drew]); with_reducible exact s0))); (have tb3 : w3.cell? ⟨w.heap.size, 1, none⟩ = some (.int .u64 (y : Nat)) := (by (rw [hc3 _ _ (by first | omega | (simp; done) | (simp; omega))]; (try simp (disch := first | omega | (simp; done) | (simp; omega)) only [World.cell?_alloc_past, World.cell?_drew]); with_reducible exact s1))); unfold numV) | (go_at_call_of 7 (Value.int IntKind.u64 (x : Int)); refine (H2.out _).mono ?_; rintro e w4 ⟨rfl, h4⟩; obtain ⟨hc4, hf4⟩ := old_cells h4; (have hs4 := h4.size; (try simp at hs4); have hz4 : w.heap.size < w4.heap.size := (by omega)); (try have hu4 : w3.heap.size < w4.heap.size := (by omega)); (try have ht4 : w3.heap.size + 1 < w4.heap.size := (by omega)); (try have hy4 : w.heap.size + 1 < w4.heap.size := (by omega)); (try have hv4 : w.heap.size + 1 + 1 < w4.heap.size := (by omega)); (have hb4 : Below w.heap.size w w4 := (Below.trans (by go_grown) (h4.mono (by first | omega | (simp; done) | (simp; omega))))); (have ta4 : w4.cell? ⟨w.heap.size, 0, none⟩ = some (.int .u64 (x : Nat)) := (by (rw [hc4 _ _ (by first | omega | (simp; done) | (simp; omega))]; (try simp (disch := first | omega | (simp; done) | (simp; omega)) only [World.cell?_alloc_past, World.cell?_drew]); with_reducible exact ta3))); (have tb4 : w4.cell? ⟨w.heap.size, 1, none⟩ = some (.int .u64 (y : Nat)) := (by (rw [hc4 _ _ (by first | omega | (simp; done) | (simp; omega))]; (try simp (disch := first | omega | (simp; done) | (simp; omega)) only [World.cell?_alloc_past, World.cell?_drew]); with_reducible exact tb3))); (try (refine have zz : Zeros w4 (w.heap.size + 1) := ?_; ?_; (focus (intro i hi; rw [hc4 _ _ (by first | omega | (simp; done) | (simp; omega))]; (try simp (disch := first | omega | (simp; done) | (simp; omega)) only [World.cell?_alloc_past, World.cell?_drew]); (try rw [hc3 _ _ (by first | omega | (simp; done) | (simp; omega))]); (try simp (disch := first | omega | (simp; done) | (simp; omega)) only [World.cell?_alloc_past, World.cell?_drew]); rcases eight_of hi with rfl | rfl | rfl | rfl | rfl | rfl | rfl | rfl <;> first | (with_reducible assumption) | (simp [go_sem]; done))); obtain ⟨zz00, zz01, zz02, zz03, zz04, zz05, zz06, zz07⟩ := zz.get; clear zz)); (try (refine have zz : Zeros w4 (w.heap.size + 1 + 1) := ?_; ?_; (focus (intro i hi; rw [hc4 _ _ (by first | omega | (simp; done) | (simp; omega))]; (try simp (disch := first | omega | (simp; done) | (simp; omega)) only [World.cell?_alloc_past, World.cell?_drew]); (try rw [hc3 _ _ (by first | omega | (simp; done) | (simp; omega))]); (try simp (disch := first | omega | (simp; done) | (simp; omega)) only [World.cell?_alloc_past, World.cell?_drew]); rcases eight_of hi with rfl | rfl | rfl | rfl | rfl | rfl | rfl | rfl <;> first | (with_reducible assumption) | (simp [go_sem]; done))); obtain ⟨zz10, zz11, zz12, zz13, zz14, zz15, zz16, zz17⟩ := zz.get; clear zz)); (try (refine have zz : Zeros w4 (w3.heap.size) := ?_; ?_; (focus (intro i hi; rw [hc4 _ _ (by first | omega | (simp; done) | (simp; omega))]; (try simp (disch := first | omega | (simp; done) | (simp; omega)) only [World.cell?_alloc_past, World.cell?_drew]); (try rw [hc3 _ _ (by first | omega | (simp; done) | (simp; omega))]); (try simp (disch := first | omega | (simp; done) | (simp; omega)) only [World.cell?_alloc_past, World.cell?_drew]); rcases eight_of hi with rfl | rfl | rfl | rfl | rfl | rfl | rfl | rfl <;> first | (with_reducible assumption) | (simp [go_sem]; done))); obtain ⟨zz20, zz21, zz22, zz23, zz24, zz25, zz26, zz27⟩ := zz.get; clear zz)); (try (refine have zz : Zeros w4 (w3.heap.size + 1) := ?_; ?_; (focus (intro i hi; rw [hc4 _ _ (by first | omega | (simp; done) | (simp; omega))]; (try simp (disch := first | omega | (simp; done) | (simp; omega)) only [World.cell?_alloc_past, World.cell?_drew]); (try rw [hc3 _ _ (by first | omega | (simp; done) | (simp; omega))]); (try simp (disch := first | omega | (simp; done) | (simp; omega)) only [World.cell?_alloc_past, World.cell?_drew]); rcases eight_of hi with rfl | rfl | rfl | rfl | rfl | rfl | rfl | rfl <;> first | (with_reducible assumption) | (simp [go_sem]; done))); obtain ⟨zz30, zz31, zz32, zz33, zz34, zz35, zz36, zz37⟩ := zz.get; clear zz)); unfold numV))
    all_goals
      go_wp2_with fail
      go_meet
      refine ⟨_, _, rfl, rfl, ?_, ?_, ?_, ?_, ?_, ?_, ?_, ?_⟩
      · simp; try omega
      · simp; try omega
      · intro i hi
        rcases eight_of hi with rfl | rfl | rfl | rfl | rfl | rfl | rfl | rfl <;> (simp [go_sem, *]; done)
      · intro i hi
        rcases eight_of hi with rfl | rfl | rfl | rfl | rfl | rfl | rfl | rfl <;> (simp [go_sem, *]; done)
      · simp; try omega
      · (try simp (disch := first | omega | (simp; done) | (simp; omega)) only [World.cell?_alloc_past, World.cell?_drew, World.cell?_setCell_far])
        with_reducible exact ta4
      · (try simp (disch := first | omega | (simp; done) | (simp; omega)) only [World.cell?_alloc_past, World.cell?_drew, World.cell?_setCell_far])
        with_reducible exact tb4
      · go_grown
  case rest =>
    obtain ⟨k7, k8, rfl, rfl, z7, z8, P, Q, zw, cx, cy, hB⟩ := hcut
    have HB := Lib.hid hB
    obtain ⟨p0, p1, p2, p3, p4, p5, p6, p7⟩ := P.get
    obtain ⟨q0, q1, q2, q3, q4, q5, q6, q7⟩ := Q.get
    clear hB P Q
    go_upto_region 2 with fail
    go_region_held3 (fun w' => w'.cell? ⟨k7, 0, none⟩ = some (.int .u64 (dg (a * b) 0 : Nat)) ∧ w'.cell? ⟨k7, 1, none⟩ = some (.int .u64 (dg (a * b) 1 : Nat)) ∧ w'.cell? ⟨k7, 2, none⟩ = some (.int .u64 (dg (a * b) 2 : Nat)) ∧ w'.cell? ⟨k7, 3, none⟩ = some (.int .u64 (dg (a * b) 3 : Nat)) ∧ w'.cell? ⟨k7, 4, none⟩ = some (.int .u64 (dg (a * b) 4 : Nat)) ∧ w'.cell? ⟨k7, 5, none⟩ = some (.int .u64 (dg (a * b) 5 : Nat)) ∧ w'.cell? ⟨k7, 6, none⟩ = some (.int .u64 (dg (a * b) 6 : Nat)) ∧ w'.cell? ⟨k7, 7, none⟩ = some (.int .u64 (dg (a * b) 7 : Nat)) ∧ w'.cell? ⟨k8, 0, none⟩ = some (.int .u64 (dg (x * y) 0 : Nat)) ∧ w'.cell? ⟨k8, 1, none⟩ = some (.int .u64 (dg (x * y) 1 : Nat)) ∧ w'.cell? ⟨k8, 2, none⟩ = some (.int .u64 (dg (x * y) 2 : Nat)) ∧ w'.cell? ⟨k8, 3, none⟩ = some (.int .u64 (dg (x * y) 3 : Nat)) ∧ w'.cell? ⟨k8, 4, none⟩ = some (.int .u64 (dg (x * y) 4 : Nat)) ∧ w'.cell? ⟨k8, 5, none⟩ = some (.int .u64 (dg (x * y) 5 : Nat)) ∧ w'.cell? ⟨k8, 6, none⟩ = some (.int .u64 (dg (x * y) 6 : Nat)) ∧ w'.cell? ⟨k8, 7, none⟩ = some (.int .u64 (dg (x * y) 7 : Nat)) ∧ w'.cell? ⟨w.heap.size, 0, none⟩ = some (.int .u64 (x : Nat)) ∧ w'.cell? ⟨w.heap.size, 1, none⟩ = some (.int .u64 (y : Nat))) (go_keep) (first | (go_at_call 8; refine (awake_any _).mono ?_; rintro e a1 ⟨rfl, ha1⟩; obtain ⟨hca1, hfa1⟩ := old_cells ha1; (try simp only [World.size_drew, World.cell?_drew, World.frozen?_drew] at hca1 hfa1); (have hs := ha1.size; (try simp at hs); have z7a1 : k7 < a1.heap.size := (by omega); have z8a1 : k8 < a1.heap.size := (by omega); have zwa1 : w.heap.size < a1.heap.size := (by omega); clear hs)) | (go_at_call 10; refine (H3.out _).mono ?_; rintro e a2 ⟨rfl, ha2⟩; obtain ⟨hca2, hfa2⟩ := old_cells ha2; (try simp only [World.size_drew, World.cell?_drew, World.frozen?_drew] at hca2 hfa2); (have hs := ha2.size; (try simp at hs); have z7a2 : k7 < a2.heap.size := (by omega); have z8a2 : k8 < a2.heap.size := (by omega); have zwa2 : w.heap.size < a2.heap.size := (by omega); clear hs)) | (go_at_call 9; refine (H4.out _).mono ?_; rintro e a3 ⟨rfl, ha3⟩; obtain ⟨hca3, hfa3⟩ := old_cells ha3; (try simp only [World.size_drew, World.cell?_drew, World.frozen?_drew] at hca3 hfa3); (have hs := ha3.size; (try simp at hs); have z7a3 : k7 < a3.heap.size := (by omega); have z8a3 : k8 < a3.heap.size := (by omega); have zwa3 : w.heap.size < a3.heap.size := (by omega); clear hs)) | (go_at_call 11; refine (H5.out _).mono ?_; rintro e a4 ⟨rfl, ha4⟩; obtain ⟨hca4, hfa4⟩ := old_cells ha4; (try simp only [World.size_drew, World.cell?_drew, World.frozen?_drew] at hca4 hfa4); (have hs := ha4.size; (try simp at hs); have z7a4 : k7 < a4.heap.size := (by omega); have z8a4 : k8 < a4.heap.size := (by omega); have zwa4 : w.heap.size < a4.heap.size := (by omega); clear hs)) | (go_at_call 12; refine (H6.out _).mono ?_; rintro e a5 ⟨rfl, ha5⟩; obtain ⟨hca5, hfa5⟩ := old_cells ha5; (try simp only [World.size_drew, World.cell?_drew, World.frozen?_drew] at hca5 hfa5); (have hs := ha5.size; (try simp at hs); have z7a5 : k7 < a5.heap.size := (by omega); have z8a5 : k8 < a5.heap.size := (by omega); have zwa5 : w.heap.size < a5.heap.size := (by omega); clear hs)))
    all_goals
      go_wp2
      go_returns
      have b1 := HB.out.drew.trans (ha1.mono (by have := HB.out.size; simp; omega))
      have b2 := b1.trans (ha2.mono b1.size)
      have b3 := b2.trans (ha3.mono b2.size)
      have b4 := b3.trans (ha4.mono b3.size)
      exact ⟨rfl, b4.trans (ha5.mono b4.size)⟩
end Go.Proofs.Ytphjpbfahlhliaa
