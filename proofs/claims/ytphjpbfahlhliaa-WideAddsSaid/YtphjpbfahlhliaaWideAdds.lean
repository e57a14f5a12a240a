/- WideAdds's walk. -/
import Derived.Test.YtphjpbfahlhliaaWideMuls
namespace Go.Proofs.Ytphjpbfahlhliaa
open Go.ChangeShapes Go.WideShapes Go.ChangeAt Go.RowKit
set_option linter.unusedSimpArgs false
def AddsCut (w : World) (a b c d p q : Nat) (s5 s6 : Value) (wx : World) : Prop := ∃ k7 k8 : Nat, s5 = .pointer (some ⟨k7, 0, none⟩) ∧ s6 = .pointer (some ⟨k8, 0, none⟩) ∧ k7 < wx.heap.size ∧ k8 < wx.heap.size ∧ Has8 wx k7 p ∧ Has8 wx k8 q ∧ w.heap.size + 1 < wx.heap.size ∧ wx.cell? ⟨w.heap.size, 0, none⟩ = some (.int .u64 (a : Nat)) ∧ wx.cell? ⟨w.heap.size, 1, none⟩ = some (.int .u64 (b : Nat)) ∧ wx.cell? ⟨w.heap.size + 1, 0, none⟩ = some (.int .u64 (c : Nat)) ∧ wx.cell? ⟨w.heap.size + 1, 1, none⟩ = some (.int .u64 (d : Nat)) ∧ Below w.heap.size w wx
theorem two_lt {a b : Nat} (ha : a < 18446744073709551616) (hb : b < 18446744073709551616) : a * 18446744073709551616 + b < 340282366920938463463374607431768211456 := by omega
/-- What is told of the sum: it fits, or it doesn't. -/
def SumTold (P Q : Nat) (PV : Value) (fits : Bool) : Prop := (fits = true ∧ ∃ h l : Nat, PV = .tuple #[.agg #[.int .u64 (h : Nat), .int .u64 (l : Nat)], .int .i64 0] ∧ ∀ w : World, Calls Try.prog 9 #[.agg #[.int .u64 (h : Nat), .int .u64 (l : Nat)], .agg #[.int .u64 (dg (P + Q) 0 : Nat), .int .u64 (dg (P + Q) 1 : Nat), .int .u64 (dg (P + Q) 2 : Nat), .int .u64 (dg (P + Q) 3 : Nat), .int .u64 (dg (P + Q) 4 : Nat), .int .u64 (dg (P + Q) 5 : Nat), .int .u64 (dg (P + Q) 6 : Nat), .int .u64 (dg (P + Q) 7 : Nat)]] w (Ret (.bool true) w)) ∨ (fits = false ∧ PV = .tuple #[.agg #[.int .u64 0, .int .u64 0], .int .i64 2])
theorem sum_told (P Q : Nat) : SumTold P Q (plusV P Q) (decide (P + Q < 340282366920938463463374607431768211456)) := by
  by_cases h : P + Q < 340282366920938463463374607431768211456
  · obtain ⟨x, y, hx, hy, e1, e2⟩ := words_of (P + Q) h
    refine .inl ⟨by simpa using h, x, y, ?_, ?_⟩
    · rw [plusV, if_pos h, e2]
    · intro w
      have h1 := same_yes (P + Q) h w
      rw [e2] at h1
      exact h1
  · refine .inr ⟨by simpa using h, ?_⟩
    rw [plusV, if_neg h]; rfl
/-- What is told of the difference, and of how they compare. -/
def DifTold (P Q : Nat) (MV : Value) (z : Int) : Prop := (z = -1 ∧ MV = .tuple #[.agg #[.int .u64 0, .int .u64 0], .int .i64 2]) ∨ (0 ≤ z ∧ ∃ (h l : Nat) (V : Value), MV = .tuple #[.agg #[.int .u64 (h : Nat), .int .u64 (l : Nat)], .int .i64 0] ∧ (∀ w : World, Calls Try.prog 13 #[.int .u64 (h : Nat), .int .u64 (l : Nat)] w (Ret V w)) ∧ ∀ w : World, Calls Try.prog 15 #[V, .agg #[.int .u64 (dg Q 0 : Nat), .int .u64 (dg Q 1 : Nat), .int .u64 (dg Q 2 : Nat), .int .u64 (dg Q 3 : Nat), .int .u64 (dg Q 4 : Nat), .int .u64 (dg Q 5 : Nat), .int .u64 (dg Q 6 : Nat), .int .u64 (dg Q 7 : Nat)]] w (Ret (.tuple #[.agg #[.int .u64 (dg P 0 : Nat), .int .u64 (dg P 1 : Nat), .int .u64 (dg P 2 : Nat), .int .u64 (dg P 3 : Nat), .int .u64 (dg P 4 : Nat), .int .u64 (dg P 5 : Nat), .int .u64 (dg P 6 : Nat), .int .u64 (dg P 7 : Nat)], .bool true]) w))
theorem dif_told (P Q : Nat) (hP : P < 340282366920938463463374607431768211456) (hQ : Q < 340282366920938463463374607431768211456) : DifTold P Q (minusV P Q) (cmpN P Q) := by
  by_cases h : Q ≤ P
  · obtain ⟨x, y, hx, hy, e1, e2⟩ := words_of (P - Q) (by omega)
    refine .inr ⟨?_, x, y, numV (P - Q), ?_, ?_, ?_⟩
    · unfold cmpN; rw [if_neg (by omega)]; split <;> omega
    · rw [minusV, if_pos h, e2]
    · intro w
      have h1 := of_any x y (by omega) (by omega) w
      rw [← e1] at h1
      exact h1
    · intro w
      have h1 := plus_any (P - Q) Q (by omega) hQ w
      rw [show P - Q + Q = P from by omega, decide_eq_true hP] at h1
      exact h1
  · refine .inl ⟨cmpN_lt (by omega), ?_⟩
    rw [minusV, if_neg h]; rfl
/-- What the walk knows of a world behind the first statement. -/
structure In (w : World) (k7 k8 a b c d P Q : Nat) (wx : World) : Prop where
  z7 : k7 < wx.heap.size
  z8 : k8 < wx.heap.size
  zv : w.heap.size + 1 < wx.heap.size
  P8 : Has8 wx k7 P
  Q8 : Has8 wx k8 Q
  ca : wx.cell? ⟨w.heap.size, 0, none⟩ = some (.int .u64 (a : Nat))
  cb : wx.cell? ⟨w.heap.size, 1, none⟩ = some (.int .u64 (b : Nat))
  cc : wx.cell? ⟨w.heap.size + 1, 0, none⟩ = some (.int .u64 (c : Nat))
  cd : wx.cell? ⟨w.heap.size + 1, 1, none⟩ = some (.int .u64 (d : Nat))
  hB : Below w.heap.size w wx
theorem In.call {w wy w1 : World} {k7 k8 a b c d P Q : Nat} (h : In w k7 k8 a b c d P Q wy) (hb : Below wy.heap.size wy w1) : In w k7 k8 a b c d P Q w1 := by
  have hs := hb.size
  have h7 := h.z7
  have h8 := h.z8
  have hv := h.zv
  refine ⟨by omega, by omega, by omega, fun i hi => ?_, fun i hi => ?_, ?_, ?_, ?_, ?_, h.hB.trans (hb.mono h.hB.size)⟩
  · rw [hb.cell (p := ⟨k7, i, none⟩) h7]; exact h.P8 i hi
  · rw [hb.cell (p := ⟨k8, i, none⟩) h8]; exact h.Q8 i hi
  · rw [hb.cell (p := ⟨w.heap.size, 0, none⟩) (by show w.heap.size < _; omega)]; exact h.ca
  · rw [hb.cell (p := ⟨w.heap.size, 1, none⟩) (by show w.heap.size < _; omega)]; exact h.cb
  · rw [hb.cell (p := ⟨w.heap.size + 1, 0, none⟩) hv]; exact h.cc
  · rw [hb.cell (p := ⟨w.heap.size + 1, 1, none⟩) hv]; exact h.cd
theorem In.alloc {w wy : World} {k7 k8 a b c d P Q : Nat} (h : In w k7 k8 a b c d P Q wy) (o : Obj) : In w k7 k8 a b c d P Q (wy.alloc o) := h.call ((Below.refl _ _).alloc (Nat.le_refl _) o)
theorem In.store {w wy : World} {k7 k8 a b c d P Q k : Nat} (h : In w k7 k8 a b c d P Q wy) (n7 : k ≠ k7) (n8 : k ≠ k8) (n0 : k ≠ w.heap.size) (n1 : k ≠ w.heap.size + 1) (nl : w.heap.size ≤ k) (o : Nat) (v : Value) : In w k7 k8 a b c d P Q (wy.setCell ⟨k, o, none⟩ v) := by
  have hz : (wy.setCell ⟨k, o, none⟩ v).heap.size = wy.heap.size := by simp [World.setCell]
  refine ⟨by rw [hz]; exact h.z7, by rw [hz]; exact h.z8, by rw [hz]; exact h.zv, fun i hi => ?_, fun i hi => ?_, ?_, ?_, ?_, ?_, h.hB.setCell (by exact nl) _⟩
  · rw [World.cell?_setCell_far _ _ _ _ (by exact n7)]; exact h.P8 i hi
  · rw [World.cell?_setCell_far _ _ _ _ (by exact n8)]; exact h.Q8 i hi
  · rw [World.cell?_setCell_far _ _ _ _ (by exact n0)]; exact h.ca
  · rw [World.cell?_setCell_far _ _ _ _ (by exact n0)]; exact h.cb
  · rw [World.cell?_setCell_far _ _ _ _ (by exact n1)]; exact h.cc
  · rw [World.cell?_setCell_far _ _ _ _ (by exact n1)]; exact h.cd
theorem In.store8 {w wy : World} {k7 k8 a b c d P Q k : Nat} (h : In w k7 k8 a b c d P Q wy) (n7 : k ≠ k7) (n8 : k ≠ k8) (n0 : k ≠ w.heap.size) (n1 : k ≠ w.heap.size + 1) (nl : w.heap.size ≤ k) (v0 v1 v2 v3 v4 v5 v6 v7 : Value) :
    In w k7 k8 a b c d P Q ((((((((wy.setCell ⟨k, 0, none⟩ v0).setCell ⟨k, 1, none⟩ v1).setCell ⟨k, 2, none⟩ v2).setCell ⟨k, 3, none⟩ v3).setCell ⟨k, 4, none⟩ v4).setCell ⟨k, 5, none⟩ v5).setCell ⟨k, 6, none⟩ v6).setCell ⟨k, 7, none⟩ v7) :=
  (((((((h.store n7 n8 n0 n1 nl 0 v0).store n7 n8 n0 n1 nl 1 v1).store n7 n8 n0 n1 nl 2 v2).store n7 n8 n0 n1 nl 3 v3).store n7 n8 n0 n1 nl 4 v4).store n7 n8 n0 n1 nl 5 v5).store n7 n8 n0 n1 nl 6 v6).store n7 n8 n0 n1 nl 7 v7
theorem In.drew {w wy : World} {k7 k8 a b c d P Q : Nat} (h : In w k7 k8 a b c d P Q wy) : In w k7 k8 a b c d P Q wy.drew := h.call ((Below.refl _ _).drew)
theorem In.facts {w wx : World} {k7 k8 a b c d P Q : Nat} (h : In w k7 k8 a b c d P Q wx) : wx.cell? ⟨k7, 0, none⟩ = some (.int .u64 (dg P 0 : Nat)) ∧ wx.cell? ⟨k7, 1, none⟩ = some (.int .u64 (dg P 1 : Nat)) ∧ wx.cell? ⟨k7, 2, none⟩ = some (.int .u64 (dg P 2 : Nat)) ∧ wx.cell? ⟨k7, 3, none⟩ = some (.int .u64 (dg P 3 : Nat)) ∧ wx.cell? ⟨k7, 4, none⟩ = some (.int .u64 (dg P 4 : Nat)) ∧ wx.cell? ⟨k7, 5, none⟩ = some (.int .u64 (dg P 5 : Nat)) ∧ wx.cell? ⟨k7, 6, none⟩ = some (.int .u64 (dg P 6 : Nat)) ∧ wx.cell? ⟨k7, 7, none⟩ = some (.int .u64 (dg P 7 : Nat)) ∧ wx.cell? ⟨k8, 0, none⟩ = some (.int .u64 (dg Q 0 : Nat)) ∧ wx.cell? ⟨k8, 1, none⟩ = some (.int .u64 (dg Q 1 : Nat)) ∧ wx.cell? ⟨k8, 2, none⟩ = some (.int .u64 (dg Q 2 : Nat)) ∧ wx.cell? ⟨k8, 3, none⟩ = some (.int .u64 (dg Q 3 : Nat)) ∧ wx.cell? ⟨k8, 4, none⟩ = some (.int .u64 (dg Q 4 : Nat)) ∧ wx.cell? ⟨k8, 5, none⟩ = some (.int .u64 (dg Q 5 : Nat)) ∧ wx.cell? ⟨k8, 6, none⟩ = some (.int .u64 (dg Q 6 : Nat)) ∧ wx.cell? ⟨k8, 7, none⟩ = some (.int .u64 (dg Q 7 : Nat)) ∧ wx.cell? ⟨w.heap.size, 0, none⟩ = some (.int .u64 (a : Nat)) ∧ wx.cell? ⟨w.heap.size, 1, none⟩ = some (.int .u64 (b : Nat)) ∧ wx.cell? ⟨w.heap.size + 1, 0, none⟩ = some (.int .u64 (c : Nat)) ∧ wx.cell? ⟨w.heap.size + 1, 1, none⟩ = some (.int .u64 (d : Nat)) ∧ k7 < wx.heap.size ∧ k8 < wx.heap.size ∧ w.heap.size < wx.heap.size ∧ w.heap.size + 1 < wx.heap.size :=
  ⟨h.P8 0 (by omega), h.P8 1 (by omega), h.P8 2 (by omega), h.P8 3 (by omega), h.P8 4 (by omega), h.P8 5 (by omega), h.P8 6 (by omega), h.P8 7 (by omega), h.Q8 0 (by omega), h.Q8 1 (by omega), h.Q8 2 (by omega), h.Q8 3 (by omega), h.Q8 4 (by omega), h.Q8 5 (by omega), h.Q8 6 (by omega), h.Q8 7 (by omega), h.ca, h.cb, h.cc, h.cd, h.z7, h.z8, by have := h.zv; omega, h.zv⟩
def AddsCut2 (w : World) (k7 k8 a b c d P Q : Nat) (s14 s15 : Value) (wx : World) : Prop := ∃ k : Nat, s14 = .pointer (some ⟨k, 0, none⟩) ∧ s15 = .bool true ∧ k < wx.heap.size ∧ Has8 wx k P ∧ In w k7 k8 a b c d P Q wx
set_option maxRecDepth 100000 in
set_option maxHeartbeats 20000000 in
theorem adds_walk (a b c d : Nat) (ha : a < 18446744073709551616) (hb : b < 18446744073709551616) (hc : c < 18446744073709551616) (hd : d < 18446744073709551616) (w : World) :
    Calls Try.prog 4 #[.agg #[.int .u64 a, .int .u64 b], .agg #[.int .u64 c, .int .u64 d]] w fun e w' => e = .returned (.bool true) ∧ Below w.heap.size w w' := by
  have H1 := Lib.hid (fun (w : World) => of_any a b ha hb w)
  have H2 := Lib.hid (fun (w : World) => of_any c d hc hd w)
  have W1 := wv_of a b hb
  have W2 := wv_of c d hd
  have hP : a * 18446744073709551616 + b < 340282366920938463463374607431768211456 := two_lt ha hb
  have hQ : c * 18446744073709551616 + d < 340282366920938463463374607431768211456 := two_lt hc hd
  obtain ⟨P, eP⟩ : ∃ P, P = a * 18446744073709551616 + b := ⟨_, rfl⟩
  obtain ⟨Q, eQ⟩ : ∃ Q, Q = c * 18446744073709551616 + d := ⟨_, rfl⟩
  rw [← eP] at hP H1 W1
  rw [← eQ] at hQ H2 W2
  have H3 := Lib.hid (fun (w : World) => wplus_any P Q hP hQ w)
  have H4 := Lib.hid (fun (w : World) => plus_any P Q hP hQ w)
  have H5 := Lib.hid (fun (w : World) => cmp_any P Q hP hQ w)
  have H6 := Lib.hid (fun (w : World) => wminus_any P Q hP hQ w)
  have H7 := Lib.hid (fun (w : World) => wcmp_any P Q hP hQ w)
  have HS := sum_told P Q
  have HD := dif_told P Q hP hQ
  rw [W1, W2] at H3 H6 H7
  clear hP hQ ha hb hc hd eP eQ W1 W2
  generalize plusV P Q = PV at *
  generalize minusV P Q = MV at *
  generalize cmpN P Q = z at *
  generalize decide (P + Q < 340282366920938463463374607431768211456) = fits at *
  unfold numV at H4 H5
  go_enter Try.func4, Try.ntmps4
  go_upto_region 1 with fail
  go_cut [5, 6] (fun s5 s6 wx => AddsCut w a b c d P Q s5 s6 wx)
  case first =>
    have sa : (w.alloc (.cells #[.int .u64 a, .int .u64 b] 30)).cell? ⟨w.heap.size, 0, none⟩ = some (.int .u64 (a : Nat)) := by go_cell
    have sb : (w.alloc (.cells #[.int .u64 a, .int .u64 b] 30)).cell? ⟨w.heap.size, 1, none⟩ = some (.int .u64 (b : Nat)) := by go_cell
    have sc : ((w.alloc (.cells #[.int .u64 a, .int .u64 b] 30)).alloc (.cells #[.int .u64 c, .int .u64 d] 30)).cell? ⟨w.heap.size + 1, 0, none⟩ = some (.int .u64 (c : Nat)) := by go_cell
    have sd : ((w.alloc (.cells #[.int .u64 a, .int .u64 b] 30)).alloc (.cells #[.int .u64 c, .int .u64 d] 30)).cell? ⟨w.heap.size + 1, 1, none⟩ = some (.int .u64 (d : Nat)) := by go_cell
    go_region_held3 (fun w' => w'.cell? ⟨w.heap.size, 0, none⟩ = some (.int .u64 (a : Nat)) ∧ w'.cell? ⟨w.heap.size, 1, none⟩ = some (.int .u64 (b : Nat)) ∧ w'.cell? ⟨w.heap.size + 1, 0, none⟩ = some (.int .u64 (c : Nat)) ∧ w'.cell? ⟨w.heap.size + 1, 1, none⟩ = some (.int .u64 (d : Nat))) (refine ⟨?_, ?_, ?_, ?_⟩ <;> ((try simp (disch := first | omega | (simp; done) | (simp; omega)) only [World.cell?_alloc_past, World.cell?_drew, World.cell?_setCell_far]); (first | with_reducible exact sa | with_reducible exact sb | with_reducible exact sc | with_reducible exact sd | with_reducible exact ta3 | with_reducible exact tb3 | with_reducible exact tc3 | with_reducible exact td3 | with_reducible exact ta4 | with_reducible exact tb4 | with_reducible exact tc4 | with_reducible exact td4))) (first | (go_at_call_of 13 (Value.int IntKind.u64 (a : Int)); refine (H1.out _).mono ?_; rintro e w3 ⟨rfl, h3⟩; obtain ⟨hc3, hf3⟩ := old_cells h3; (have hs := h3.size; simp at hs; have hz3 : w.heap.size + 1 < w3.heap.size := (by omega)); have hq3 : w.heap.size < w3.heap.size := (by omega); (try have hy3 : w.heap.size + 1 + 1 < w3.heap.size := (by omega)); (try have hv3 : w.heap.size + 1 + 1 + 1 < w3.heap.size := (by omega)); (have hb3 : Below w.heap.size w w3 := (Below.trans (by go_grown) (h3.mono (by first | omega | (simp; done) | (simp; omega))))); (have ta3 : w3.cell? ⟨w.heap.size, 0, none⟩ = some (.int .u64 (a : Nat)) := (by (rw [hc3 _ _ (by first | omega | (simp; done) | (simp; omega))]; (try simp (disch := first | omega | (simp; done) | (simp; omega)) only [World.cell?_alloc_past, World.cell?_drew]); with_reducible exact sa))); (have tb3 : w3.cell? ⟨w.heap.size, 1, none⟩ = some (.int .u64 (b : Nat)) := (by (rw [hc3 _ _ (by first | omega | (simp; done) | (simp; omega))]; (try simp (disch := first | omega | (simp; done) | (simp; omega)) only [World.cell?_alloc_past, World.cell?_drew]); with_reducible exact sb))); (have tc3 : w3.cell? ⟨w.heap.size + 1, 0, none⟩ = some (.int .u64 (c : Nat)) := (by (rw [hc3 _ _ (by first | omega | (simp; done) | (simp; omega))]; (try simp (disch := first | omega | (simp; done) | (simp; omega)) only [World.cell?_alloc_past, World.cell?_drew]); with_reducible exact sc))); (have td3 : w3.cell? ⟨w.heap.size + 1, 1, none⟩ = some (.int .u64 (d : Nat)) := (by (rw [hc3 _ _ (by first | omega | (simp; done) | (simp; omega))]; (try simp (disch := first | omega | (simp; done) | (simp; omega)) only [World.cell?_alloc_past, World.cell?_drew]); with_reducible exact sd))); unfold numV) | (go_at_call_of 13 (Value.int IntKind.u64 (c : Int)); refine (H2.out _).mono ?_; rintro e w4 ⟨rfl, h4⟩; obtain ⟨hc4, hf4⟩ := old_cells h4; (have hs4 := h4.size; (try simp at hs4); have hz4 : w.heap.size + 1 < w4.heap.size := (by omega)); have hq4 : w.heap.size < w4.heap.size := (by omega); (try have hu4 : w3.heap.size < w4.heap.size := (by omega)); (try have ht4 : w3.heap.size + 1 < w4.heap.size := (by omega)); (try have hy4 : w.heap.size + 1 + 1 < w4.heap.size := (by omega)); (try have hv4 : w.heap.size + 1 + 1 + 1 < w4.heap.size := (by omega)); (have hb4 : Below w.heap.size w w4 := (Below.trans (by go_grown) (h4.mono (by first | omega | (simp; done) | (simp; omega))))); (have ta4 : w4.cell? ⟨w.heap.size, 0, none⟩ = some (.int .u64 (a : Nat)) := (by (rw [hc4 _ _ (by first | omega | (simp; done) | (simp; omega))]; (try simp (disch := first | omega | (simp; done) | (simp; omega)) only [World.cell?_alloc_past, World.cell?_drew]); with_reducible exact ta3))); (have tb4 : w4.cell? ⟨w.heap.size, 1, none⟩ = some (.int .u64 (b : Nat)) := (by (rw [hc4 _ _ (by first | omega | (simp; done) | (simp; omega))]; (try simp (disch := first | omega | (simp; done) | (simp; omega)) only [World.cell?_alloc_past, World.cell?_drew]); with_reducible exact tb3))); (have tc4 : w4.cell? ⟨w.heap.size + 1, 0, none⟩ = some (.int .u64 (c : Nat)) := (by (rw [hc4 _ _ (by first | omega | (simp; done) | (simp; omega))]; (try simp (disch := first | omega | (simp; done) | (simp; omega)) only [World.cell?_alloc_past, World.cell?_drew]); with_reducible exact tc3))); (have td4 : w4.cell? ⟨w.heap.size + 1, 1, none⟩ = some (.int .u64 (d : Nat)) := (by (rw [hc4 _ _ (by first | omega | (simp; done) | (simp; omega))]; (try simp (disch := first | omega | (simp; done) | (simp; omega)) only [World.cell?_alloc_past, World.cell?_drew]); with_reducible exact td3))); (try (refine have zz : Zeros w4 (w.heap.size + 1 + 1) := ?_; ?_; (focus (intro i hi; rw [hc4 _ _ (by first | omega | (simp; done) | (simp; omega))]; (try simp (disch := first | omega | (simp; done) | (simp; omega)) only [World.cell?_alloc_past, World.cell?_drew]); (try rw [hc3 _ _ (by first | omega | (simp; done) | (simp; omega))]); (try simp (disch := first | omega | (simp; done) | (simp; omega)) only [World.cell?_alloc_past, World.cell?_drew]); rcases eight_of hi with rfl | rfl | rfl | rfl | rfl | rfl | rfl | rfl <;> first | (with_reducible assumption) | (simp [go_sem]; done))); obtain ⟨zz00, zz01, zz02, zz03, zz04, zz05, zz06, zz07⟩ := zz.get; clear zz)); (try (refine have zz : Zeros w4 (w.heap.size + 1 + 1 + 1) := ?_; ?_; (focus (intro i hi; rw [hc4 _ _ (by first | omega | (simp; done) | (simp; omega))]; (try simp (disch := first | omega | (simp; done) | (simp; omega)) only [World.cell?_alloc_past, World.cell?_drew]); (try rw [hc3 _ _ (by first | omega | (simp; done) | (simp; omega))]); (try simp (disch := first | omega | (simp; done) | (simp; omega)) only [World.cell?_alloc_past, World.cell?_drew]); rcases eight_of hi with rfl | rfl | rfl | rfl | rfl | rfl | rfl | rfl <;> first | (with_reducible assumption) | (simp [go_sem]; done))); obtain ⟨zz10, zz11, zz12, zz13, zz14, zz15, zz16, zz17⟩ := zz.get; clear zz)); (try (refine have zz : Zeros w4 (w3.heap.size) := ?_; ?_; (focus (intro i hi; rw [hc4 _ _ (by first | omega | (simp; done) | (simp; omega))]; (try simp (disch := first | omega | (simp; done) | (simp; omega)) only [World.cell?_alloc_past, World.cell?_drew]); (try rw [hc3 _ _ (by first | omega | (simp; done) | (simp; omega))]); (try simp (disch := first | omega | (simp; done) | (simp; omega)) only [World.cell?_alloc_past, World.cell?_drew]); rcases eight_of hi with rfl | rfl | rfl | rfl | rfl | rfl | rfl | rfl <;> first | (with_reducible assumption) | (simp [go_sem]; done))); obtain ⟨zz20, zz21, zz22, zz23, zz24, zz25, zz26, zz27⟩ := zz.get; clear zz)); (try (refine have zz : Zeros w4 (w3.heap.size + 1) := ?_; ?_; (focus (intro i hi; rw [hc4 _ _ (by first | omega | (simp; done) | (simp; omega))]; (try simp (disch := first | omega | (simp; done) | (simp; omega)) only [World.cell?_alloc_past, World.cell?_drew]); (try rw [hc3 _ _ (by first | omega | (simp; done) | (simp; omega))]); (try simp (disch := first | omega | (simp; done) | (simp; omega)) only [World.cell?_alloc_past, World.cell?_drew]); rcases eight_of hi with rfl | rfl | rfl | rfl | rfl | rfl | rfl | rfl <;> first | (with_reducible assumption) | (simp [go_sem]; done))); obtain ⟨zz30, zz31, zz32, zz33, zz34, zz35, zz36, zz37⟩ := zz.get; clear zz)); unfold numV))
    all_goals
      go_wp2_with fail
      go_meet
      refine ⟨_, _, rfl, rfl, ?_, ?_, ?_, ?_, ?_, ?_, ?_, ?_, ?_, ?_⟩
      · simp; try omega
      · simp; try omega
      · intro i hi
        rcases eight_of hi with rfl | rfl | rfl | rfl | rfl | rfl | rfl | rfl <;> (simp [go_sem, *]; done)
      · intro i hi
        rcases eight_of hi with rfl | rfl | rfl | rfl | rfl | rfl | rfl | rfl <;> (simp [go_sem, *]; done)
      · simp; try omega
      · (try simp (disch := first | omega | (simp; done) | (simp; omega)) only [World.cell?_alloc_past, World.cell?_drew, World.cell?_setCell_far])
        with_reducible exact ta4
      · (try simp (disch := first | omega | (simp; done) | (simp; omega)) only [World.cell?_alloc_past, World.cell?_drew, World.cell?_setCell_far])
        with_reducible exact tb4
      · (try simp (disch := first | omega | (simp; done) | (simp; omega)) only [World.cell?_alloc_past, World.cell?_drew, World.cell?_setCell_far])
        with_reducible exact tc4
      · (try simp (disch := first | omega | (simp; done) | (simp; omega)) only [World.cell?_alloc_past, World.cell?_drew, World.cell?_setCell_far])
        with_reducible exact td4
      · go_grown
  case rest =>
    obtain ⟨k7, k8, rfl, rfl, z7, z8, HP8, HQ8, zv, ca, cb, cc, cd, hB⟩ := hcut
    have I0 : In w k7 k8 a b c d P Q wc := ⟨z7, z8, zv, HP8, HQ8, ca, cb, cc, cd, hB⟩
    clear z7 z8 zv HP8 HQ8 ca cb cc cd hB
    rcases HS with ⟨rfl, h, l, rfl, HSame⟩ | ⟨rfl, rfl⟩
    · have HM := Lib.hid HSame
      clear HSame
      obtain ⟨p0, p1, p2, p3, p4, p5, p6, p7, q0, q1, q2, q3, q4, q5, q6, q7, ca, cb, cc, cd, z7, z8, zw, zv⟩ := I0.facts
      go_wp2_with fail
      refine (H3.out _).mono ?_
      rintro e w1 ⟨rfl, h1⟩
      clear p0 p1 p2 p3 p4 p5 p6 p7 q0 q1 q2 q3 q4 q5 q6 q7 ca cb cc cd z7 z8 zw zv
      have I1 := (I0.call h1).alloc (.cells #[.int .u64 h, .int .u64 l] 30)
      obtain ⟨p0, p1, p2, p3, p4, p5, p6, p7, q0, q1, q2, q3, q4, q5, q6, q7, ca, cb, cc, cd, z7, z8, zw, zv⟩ := (I0.call h1).facts
      go_wp2_with fail
      refine (H4.out _).mono ?_
      rintro e w2 ⟨rfl, h2⟩
      have e0 : w2.cell? ⟨w1.heap.size, 0, none⟩ = some (.int .u64 (h : Nat)) := by rw [h2.cell (by simp)]; go_cell
      have e1 : w2.cell? ⟨w1.heap.size, 1, none⟩ = some (.int .u64 (l : Nat)) := by rw [h2.cell (by simp)]; go_cell
      have g2 : w1.heap.size < w2.heap.size := by have := h2.size; simp at this; omega
      clear p0 p1 p2 p3 p4 p5 p6 p7 q0 q1 q2 q3 q4 q5 q6 q7 ca cb cc cd z7 z8 zw zv
      have I2 := (I1.call h2).alloc (.cells #[.int .u64 (dg (P + Q) 0 : Nat), .int .u64 (dg (P + Q) 1 : Nat), .int .u64 (dg (P + Q) 2 : Nat), .int .u64 (dg (P + Q) 3 : Nat), .int .u64 (dg (P + Q) 4 : Nat), .int .u64 (dg (P + Q) 5 : Nat), .int .u64 (dg (P + Q) 6 : Nat), .int .u64 (dg (P + Q) 7 : Nat)] 25)
      obtain ⟨p0, p1, p2, p3, p4, p5, p6, p7, q0, q1, q2, q3, q4, q5, q6, q7, ca, cb, cc, cd, z7, z8, zw, zv⟩ := (I1.call h2).facts
      go_wp2_with fail
      refine (HM.out _).mono ?_
      rintro e w3 ⟨rfl, h3⟩
      clear p0 p1 p2 p3 p4 p5 p6 p7 q0 q1 q2 q3 q4 q5 q6 q7 ca cb cc cd z7 z8 zw zv
      have I3 := I2.call h3
      obtain ⟨p0, p1, p2, p3, p4, p5, p6, p7, q0, q1, q2, q3, q4, q5, q6, q7, ca, cb, cc, cd, z7, z8, zw, zv⟩ := I3.facts
      go_wp2_with fail
      refine (H5.out _).mono ?_
      rintro e w4 ⟨rfl, h4⟩
      clear p0 p1 p2 p3 p4 p5 p6 p7 q0 q1 q2 q3 q4 q5 q6 q7 ca cb cc cd z7 z8 zw zv
      have I4 := I3.call h4
      obtain ⟨p0, p1, p2, p3, p4, p5, p6, p7, q0, q1, q2, q3, q4, q5, q6, q7, ca, cb, cc, cd, z7, z8, zw, zv⟩ := I4.facts
      go_wp2_with fail
      refine (H6.out _).mono ?_
      rintro e w5 ⟨rfl, h5⟩
      have I5 := I4.call h5
      clear p0 p1 p2 p3 p4 p5 p6 p7 q0 q1 q2 q3 q4 q5 q6 q7 ca cb cc cd z7 z8 zw zv
      rcases HD with ⟨rfl, rfl⟩ | ⟨hz, x, y, V, rfl, HO, HP2⟩
      · have I6 := I5.alloc (.cells #[.int .u64 0, .int .u64 0] 30)
        obtain ⟨p0, p1, p2, p3, p4, p5, p6, p7, q0, q1, q2, q3, q4, q5, q6, q7, ca, cb, cc, cd, z7, z8, zw, zv⟩ := I5.facts
        go_wp2_with fail
        refine (H7.out _).mono ?_
        rintro e w6 ⟨rfl, h6⟩
        have d0 : w6.cell? ⟨w5.heap.size, 0, none⟩ = some (.int .u64 0) := by rw [h6.cell (by simp)]; go_cell
        have d1 : w6.cell? ⟨w5.heap.size, 1, none⟩ = some (.int .u64 0) := by rw [h6.cell (by simp)]; go_cell
        have g6 : w5.heap.size < w6.heap.size := by have := h6.size; simp at this; omega
        have I7 := I6.call h6
        go_wp2_with fail
        refine (awake_any _).mono ?_
        rintro e w7 ⟨rfl, h7⟩
        have d2 : w7.cell? ⟨w5.heap.size, 0, none⟩ = some (.int .u64 0) := by rw [h7.cell g6]; exact d0
        have d3 : w7.cell? ⟨w5.heap.size, 1, none⟩ = some (.int .u64 0) := by rw [h7.cell g6]; exact d1
        have I8 := I7.call h7
        go_wp2
        go_returns
        exact ⟨rfl, I8.hB⟩
      · have HO1 := Lib.hid HO
        have HP3 := Lib.hid HP2
        clear HO HP2
        have hzz : decide (z < 0) = false := by simp; omega
        have I6 := I5.alloc (.cells #[.int .u64 x, .int .u64 y] 30)
        obtain ⟨p0, p1, p2, p3, p4, p5, p6, p7, q0, q1, q2, q3, q4, q5, q6, q7, ca, cb, cc, cd, z7, z8, zw, zv⟩ := I5.facts
        go_wp2_with fail
        refine (H7.out _).mono ?_
        rintro e w6 ⟨rfl, h6⟩
        have d0 : w6.cell? ⟨w5.heap.size, 0, none⟩ = some (.int .u64 (x : Nat)) := by rw [h6.cell (by simp)]; go_cell
        have d1 : w6.cell? ⟨w5.heap.size, 1, none⟩ = some (.int .u64 (y : Nat)) := by rw [h6.cell (by simp)]; go_cell
        have g6 : w5.heap.size < w6.heap.size := by have := h6.size; simp at this; omega
        have I7 := I6.call h6
        clear p0 p1 p2 p3 p4 p5 p6 p7 q0 q1 q2 q3 q4 q5 q6 q7 ca cb cc cd z7 z8 zw zv
        obtain ⟨p0, p1, p2, p3, p4, p5, p6, p7, q0, q1, q2, q3, q4, q5, q6, q7, ca, cb, cc, cd, z7, z8, zw, zv⟩ := I7.facts
        go_upto_region 12 with fail
        go_cut [14, 15] (fun s14 s15 wx => AddsCut2 w k7 k8 a b c d P Q s14 s15 wx)
        case first =>
          go_region_held3 (fun w' => w'.cell? ⟨w5.heap.size, 0, none⟩ = some (.int .u64 (x : Nat)) ∧ w'.cell? ⟨w5.heap.size, 1, none⟩ = some (.int .u64 (y : Nat)) ∧ w'.cell? ⟨k8, 0, none⟩ = some (.int .u64 (dg Q 0 : Nat)) ∧ w'.cell? ⟨k8, 1, none⟩ = some (.int .u64 (dg Q 1 : Nat)) ∧ w'.cell? ⟨k8, 2, none⟩ = some (.int .u64 (dg Q 2 : Nat)) ∧ w'.cell? ⟨k8, 3, none⟩ = some (.int .u64 (dg Q 3 : Nat)) ∧ w'.cell? ⟨k8, 4, none⟩ = some (.int .u64 (dg Q 4 : Nat)) ∧ w'.cell? ⟨k8, 5, none⟩ = some (.int .u64 (dg Q 5 : Nat)) ∧ w'.cell? ⟨k8, 6, none⟩ = some (.int .u64 (dg Q 6 : Nat)) ∧ w'.cell? ⟨k8, 7, none⟩ = some (.int .u64 (dg Q 7 : Nat))) (refine ⟨?_, ?_, ?_, ?_, ?_, ?_, ?_, ?_, ?_, ?_⟩ <;> ((try simp (disch := first | omega | (simp; done) | (simp; omega)) only [World.cell?_alloc_past, World.cell?_drew, World.cell?_setCell_far]); (first | with_reducible exact d0 | with_reducible exact d1 | with_reducible exact q0 | with_reducible exact q1 | with_reducible exact q2 | with_reducible exact q3 | with_reducible exact q4 | with_reducible exact q5 | with_reducible exact q6 | with_reducible exact q7 | with_reducible exact t80 | with_reducible exact t81 | with_reducible exact r80 | with_reducible exact r81 | with_reducible exact r82 | with_reducible exact r83 | with_reducible exact r84 | with_reducible exact r85 | with_reducible exact r86 | with_reducible exact r87 | with_reducible exact t90 | with_reducible exact t91 | with_reducible exact r90 | with_reducible exact r91 | with_reducible exact r92 | with_reducible exact r93 | with_reducible exact r94 | with_reducible exact r95 | with_reducible exact r96 | with_reducible exact r97))) (first | (go_at_call 13; refine (HO1.out _).mono ?_; rintro e w8 ⟨rfl, h8⟩; obtain ⟨hc8, hf8⟩ := old_cells h8; (have hs8 := h8.size; (try simp at hs8); have y8 : w5.heap.size < w8.heap.size := (by omega); have zk8 : k8 < w8.heap.size := (by omega); have zj8 : k7 < w8.heap.size := (by omega)); (try have u8 : w6.heap.size < w8.heap.size := (by omega)); (have I8 : In w k7 k8 a b c d P Q w8 := (In.call (by repeat (first | with_reducible exact I7 | with_reducible exact I8 | with_reducible refine In.drew ?_ | with_reducible refine In.alloc ?_ _)) h8)); (have t80 : w8.cell? ⟨w5.heap.size, 0, none⟩ = some (.int .u64 (x : Nat)) := (by (rw [hc8 _ _ (by first | omega | (simp; done) | (simp; omega))]; (try simp (disch := first | omega | (simp; done) | (simp; omega)) only [World.cell?_alloc_past, World.cell?_drew]); with_reducible exact d0))); (have t81 : w8.cell? ⟨w5.heap.size, 1, none⟩ = some (.int .u64 (y : Nat)) := (by (rw [hc8 _ _ (by first | omega | (simp; done) | (simp; omega))]; (try simp (disch := first | omega | (simp; done) | (simp; omega)) only [World.cell?_alloc_past, World.cell?_drew]); with_reducible exact d1))); obtain ⟨r80, r81, r82, r83, r84, r85, r86, r87⟩ := I8.Q8.get) | (go_at_call 15; refine (HP3.out _).mono ?_; rintro e w9 ⟨rfl, h9⟩; obtain ⟨hc9, hf9⟩ := old_cells h9; (have hs9 := h9.size; (try simp at hs9); have y9 : w5.heap.size < w9.heap.size := (by omega); have zk9 : k8 < w9.heap.size := (by omega)); (try have u9 : w6.heap.size < w9.heap.size := (by omega)); (try have v9 : w8.heap.size < w9.heap.size := (by omega)); (have I9 : In w k7 k8 a b c d P Q w9 := (In.call (by repeat (first | with_reducible exact I7 | with_reducible exact I8 | with_reducible refine In.drew ?_ | with_reducible refine In.alloc ?_ _)) h9)); (have t90 : w9.cell? ⟨w5.heap.size, 0, none⟩ = some (.int .u64 (x : Nat)) := (by (rw [hc9 _ _ (by first | omega | (simp; done) | (simp; omega))]; (try simp (disch := first | omega | (simp; done) | (simp; omega)) only [World.cell?_alloc_past, World.cell?_drew]); with_reducible exact t80))); (have t91 : w9.cell? ⟨w5.heap.size, 1, none⟩ = some (.int .u64 (y : Nat)) := (by (rw [hc9 _ _ (by first | omega | (simp; done) | (simp; omega))]; (try simp (disch := first | omega | (simp; done) | (simp; omega)) only [World.cell?_alloc_past, World.cell?_drew]); with_reducible exact t81))); obtain ⟨r90, r91, r92, r93, r94, r95, r96, r97⟩ := I9.Q8.get; (try (refine have zz : Zeros w9 (w6.heap.size) := ?_; ?_; (focus (intro i hi; rw [hc9 _ _ (by first | omega | (simp; done) | (simp; omega))]; (try simp (disch := first | omega | (simp; done) | (simp; omega)) only [World.cell?_alloc_past, World.cell?_drew]); (try rw [hc8 _ _ (by first | omega | (simp; done) | (simp; omega))]); (try simp (disch := first | omega | (simp; done) | (simp; omega)) only [World.cell?_alloc_past, World.cell?_drew]); rcases eight_of hi with rfl | rfl | rfl | rfl | rfl | rfl | rfl | rfl <;> first | (with_reducible assumption) | (simp [go_sem]; done))); obtain ⟨zz00, zz01, zz02, zz03, zz04, zz05, zz06, zz07⟩ := zz.get; clear zz)); (try (refine have zz : Zeros w9 (w8.heap.size) := ?_; ?_; (focus (intro i hi; rw [hc9 _ _ (by first | omega | (simp; done) | (simp; omega))]; (try simp (disch := first | omega | (simp; done) | (simp; omega)) only [World.cell?_alloc_past, World.cell?_drew]); (try rw [hc8 _ _ (by first | omega | (simp; done) | (simp; omega))]); (try simp (disch := first | omega | (simp; done) | (simp; omega)) only [World.cell?_alloc_past, World.cell?_drew]); rcases eight_of hi with rfl | rfl | rfl | rfl | rfl | rfl | rfl | rfl <;> first | (with_reducible assumption) | (simp [go_sem]; done))); obtain ⟨zz10, zz11, zz12, zz13, zz14, zz15, zz16, zz17⟩ := zz.get; clear zz)); skip))
          all_goals
            go_wp2_with fail
            go_meet
            refine ⟨_, rfl, rfl, ?_, ?_, ?_⟩
            · simp; try omega
            · intro i hi
              rcases eight_of hi with rfl | rfl | rfl | rfl | rfl | rfl | rfl | rfl <;> (simp [go_sem, *]; done)
            · repeat (first | with_reducible exact I9 | with_reducible refine In.drew ?_ | with_reducible refine In.alloc ?_ _ | (with_reducible refine In.store8 ?_ ?_ ?_ ?_ ?_ ?_ _ _ _ _ _ _ _ _; rotate_left; omega; omega; omega; omega; omega))
        case rest =>
          obtain ⟨k9, rfl, rfl, z9, B9, I10⟩ := hcut
          obtain ⟨b0, b1, b2, b3, b4, b5, b6, b7⟩ := B9.get
          clear B9
          obtain ⟨p0, p1, p2, p3, p4, p5, p6, p7, q0, q1, q2, q3, q4, q5, q6, q7, ca, cb, cc, cd, z7, z8, zw, zv⟩ := I10.facts
          go_wp2_with fail
          refine (awake_any _).mono ?_
          rintro e w9 ⟨rfl, h11⟩
          have B10 : Has8 w9 k9 P := fun i hi => by
            rw [h11.cell (p := ⟨k9, i, none⟩) z9]
            rcases eight_of hi with rfl | rfl | rfl | rfl | rfl | rfl | rfl | rfl <;> with_reducible assumption
          have I12 := I10.call h11
          clear b0 b1 b2 b3 b4 b5 b6 b7 p0 p1 p2 p3 p4 p5 p6 p7 q0 q1 q2 q3 q4 q5 q6 q7 ca cb cc cd z7 z8 zw zv
          obtain ⟨b0, b1, b2, b3, b4, b5, b6, b7⟩ := B10.get
          obtain ⟨p0, p1, p2, p3, p4, p5, p6, p7, q0, q1, q2, q3, q4, q5, q6, q7, ca, cb, cc, cd, z7, z8, zw, zv⟩ := I12.facts
          clear B10
          have he := fun (w : World) => eq_num (dg P 0) (dg P 1) (dg P 2) (dg P 3) (dg P 4) (dg P 5) (dg P 6) (dg P 7) w
          have hg := eq_guard
          go_wp2
          go_returns
          exact ⟨rfl, I12.hB⟩
    · skip
      obtain ⟨p0, p1, p2, p3, p4, p5, p6, p7, q0, q1, q2, q3, q4, q5, q6, q7, ca, cb, cc, cd, z7, z8, zw, zv⟩ := I0.facts
      go_wp2_with fail
      refine (H3.out _).mono ?_
      rintro e w1 ⟨rfl, h1⟩
      clear p0 p1 p2 p3 p4 p5 p6 p7 q0 q1 q2 q3 q4 q5 q6 q7 ca cb cc cd z7 z8 zw zv
      have I1 := (I0.call h1).alloc (.cells #[.int .u64 0, .int .u64 0] 30)
      obtain ⟨p0, p1, p2, p3, p4, p5, p6, p7, q0, q1, q2, q3, q4, q5, q6, q7, ca, cb, cc, cd, z7, z8, zw, zv⟩ := (I0.call h1).facts
      go_wp2_with fail
      refine (H4.out _).mono ?_
      rintro e w2 ⟨rfl, h2⟩
      have e0 : w2.cell? ⟨w1.heap.size, 0, none⟩ = some (.int .u64 0) := by rw [h2.cell (by simp)]; go_cell
      have e1 : w2.cell? ⟨w1.heap.size, 1, none⟩ = some (.int .u64 0) := by rw [h2.cell (by simp)]; go_cell
      have g2 : w1.heap.size < w2.heap.size := by have := h2.size; simp at this; omega
      clear p0 p1 p2 p3 p4 p5 p6 p7 q0 q1 q2 q3 q4 q5 q6 q7 ca cb cc cd z7 z8 zw zv
      have I2 := (I1.call h2).alloc (.cells #[.int .u64 (dg (P + Q) 0 : Nat), .int .u64 (dg (P + Q) 1 : Nat), .int .u64 (dg (P + Q) 2 : Nat), .int .u64 (dg (P + Q) 3 : Nat), .int .u64 (dg (P + Q) 4 : Nat), .int .u64 (dg (P + Q) 5 : Nat), .int .u64 (dg (P + Q) 6 : Nat), .int .u64 (dg (P + Q) 7 : Nat)] 25)
      obtain ⟨p0, p1, p2, p3, p4, p5, p6, p7, q0, q1, q2, q3, q4, q5, q6, q7, ca, cb, cc, cd, z7, z8, zw, zv⟩ := (I1.call h2).facts
      go_wp2_with fail
      refine (H5.out _).mono ?_
      rintro e w4 ⟨rfl, h4⟩
      clear p0 p1 p2 p3 p4 p5 p6 p7 q0 q1 q2 q3 q4 q5 q6 q7 ca cb cc cd z7 z8 zw zv
      have I4 := I2.call h4
      obtain ⟨p0, p1, p2, p3, p4, p5, p6, p7, q0, q1, q2, q3, q4, q5, q6, q7, ca, cb, cc, cd, z7, z8, zw, zv⟩ := I4.facts
      go_wp2_with fail
      refine (H6.out _).mono ?_
      rintro e w5 ⟨rfl, h5⟩
      have I5 := I4.call h5
      clear p0 p1 p2 p3 p4 p5 p6 p7 q0 q1 q2 q3 q4 q5 q6 q7 ca cb cc cd z7 z8 zw zv
      rcases HD with ⟨rfl, rfl⟩ | ⟨hz, x, y, V, rfl, HO, HP2⟩
      · have I6 := I5.alloc (.cells #[.int .u64 0, .int .u64 0] 30)
        obtain ⟨p0, p1, p2, p3, p4, p5, p6, p7, q0, q1, q2, q3, q4, q5, q6, q7, ca, cb, cc, cd, z7, z8, zw, zv⟩ := I5.facts
        go_wp2_with fail
        refine (H7.out _).mono ?_
        rintro e w6 ⟨rfl, h6⟩
        have d0 : w6.cell? ⟨w5.heap.size, 0, none⟩ = some (.int .u64 0) := by rw [h6.cell (by simp)]; go_cell
        have d1 : w6.cell? ⟨w5.heap.size, 1, none⟩ = some (.int .u64 0) := by rw [h6.cell (by simp)]; go_cell
        have g6 : w5.heap.size < w6.heap.size := by have := h6.size; simp at this; omega
        have I7 := I6.call h6
        go_wp2_with fail
        refine (awake_any _).mono ?_
        rintro e w7 ⟨rfl, h7⟩
        have d2 : w7.cell? ⟨w5.heap.size, 0, none⟩ = some (.int .u64 0) := by rw [h7.cell g6]; exact d0
        have d3 : w7.cell? ⟨w5.heap.size, 1, none⟩ = some (.int .u64 0) := by rw [h7.cell g6]; exact d1
        have I8 := I7.call h7
        go_wp2
        go_returns
        exact ⟨rfl, I8.hB⟩
      · have HO1 := Lib.hid HO
        have HP3 := Lib.hid HP2
        clear HO HP2
        have hzz : decide (z < 0) = false := by simp; omega
        have I6 := I5.alloc (.cells #[.int .u64 x, .int .u64 y] 30)
        obtain ⟨p0, p1, p2, p3, p4, p5, p6, p7, q0, q1, q2, q3, q4, q5, q6, q7, ca, cb, cc, cd, z7, z8, zw, zv⟩ := I5.facts
        go_wp2_with fail
        refine (H7.out _).mono ?_
        rintro e w6 ⟨rfl, h6⟩
        have d0 : w6.cell? ⟨w5.heap.size, 0, none⟩ = some (.int .u64 (x : Nat)) := by rw [h6.cell (by simp)]; go_cell
        have d1 : w6.cell? ⟨w5.heap.size, 1, none⟩ = some (.int .u64 (y : Nat)) := by rw [h6.cell (by simp)]; go_cell
        have g6 : w5.heap.size < w6.heap.size := by have := h6.size; simp at this; omega
        have I7 := I6.call h6
        clear p0 p1 p2 p3 p4 p5 p6 p7 q0 q1 q2 q3 q4 q5 q6 q7 ca cb cc cd z7 z8 zw zv
        obtain ⟨p0, p1, p2, p3, p4, p5, p6, p7, q0, q1, q2, q3, q4, q5, q6, q7, ca, cb, cc, cd, z7, z8, zw, zv⟩ := I7.facts
        go_upto_region 12 with fail
        go_cut [14, 15] (fun s14 s15 wx => AddsCut2 w k7 k8 a b c d P Q s14 s15 wx)
        case first =>
          go_region_held3 (fun w' => w'.cell? ⟨w5.heap.size, 0, none⟩ = some (.int .u64 (x : Nat)) ∧ w'.cell? ⟨w5.heap.size, 1, none⟩ = some (.int .u64 (y : Nat)) ∧ w'.cell? ⟨k8, 0, none⟩ = some (.int .u64 (dg Q 0 : Nat)) ∧ w'.cell? ⟨k8, 1, none⟩ = some (.int .u64 (dg Q 1 : Nat)) ∧ w'.cell? ⟨k8, 2, none⟩ = some (.int .u64 (dg Q 2 : Nat)) ∧ w'.cell? ⟨k8, 3, none⟩ = some (.int .u64 (dg Q 3 : Nat)) ∧ w'.cell? ⟨k8, 4, none⟩ = some (.int .u64 (dg Q 4 : Nat)) ∧ w'.cell? ⟨k8, 5, none⟩ = some (.int .u64 (dg Q 5 : Nat)) ∧ w'.cell? ⟨k8, 6, none⟩ = some (.int .u64 (dg Q 6 : Nat)) ∧ w'.cell? ⟨k8, 7, none⟩ = some (.int .u64 (dg Q 7 : Nat))) (refine ⟨?_, ?_, ?_, ?_, ?_, ?_, ?_, ?_, ?_, ?_⟩ <;> ((try simp (disch := first | omega | (simp; done) | (simp; omega)) only [World.cell?_alloc_past, World.cell?_drew, World.cell?_setCell_far]); (first | with_reducible exact d0 | with_reducible exact d1 | with_reducible exact q0 | with_reducible exact q1 | with_reducible exact q2 | with_reducible exact q3 | with_reducible exact q4 | with_reducible exact q5 | with_reducible exact q6 | with_reducible exact q7 | with_reducible exact t80 | with_reducible exact t81 | with_reducible exact r80 | with_reducible exact r81 | with_reducible exact r82 | with_reducible exact r83 | with_reducible exact r84 | with_reducible exact r85 | with_reducible exact r86 | with_reducible exact r87 | with_reducible exact t90 | with_reducible exact t91 | with_reducible exact r90 | with_reducible exact r91 | with_reducible exact r92 | with_reducible exact r93 | with_reducible exact r94 | with_reducible exact r95 | with_reducible exact r96 | with_reducible exact r97))) (first | (go_at_call 13; refine (HO1.out _).mono ?_; rintro e w8 ⟨rfl, h8⟩; obtain ⟨hc8, hf8⟩ := old_cells h8; (have hs8 := h8.size; (try simp at hs8); have y8 : w5.heap.size < w8.heap.size := (by omega); have zk8 : k8 < w8.heap.size := (by omega); have zj8 : k7 < w8.heap.size := (by omega)); (try have u8 : w6.heap.size < w8.heap.size := (by omega)); (have I8 : In w k7 k8 a b c d P Q w8 := (In.call (by repeat (first | with_reducible exact I7 | with_reducible exact I8 | with_reducible refine In.drew ?_ | with_reducible refine In.alloc ?_ _)) h8)); (have t80 : w8.cell? ⟨w5.heap.size, 0, none⟩ = some (.int .u64 (x : Nat)) := (by (rw [hc8 _ _ (by first | omega | (simp; done) | (simp; omega))]; (try simp (disch := first | omega | (simp; done) | (simp; omega)) only [World.cell?_alloc_past, World.cell?_drew]); with_reducible exact d0))); (have t81 : w8.cell? ⟨w5.heap.size, 1, none⟩ = some (.int .u64 (y : Nat)) := (by (rw [hc8 _ _ (by first | omega | (simp; done) | (simp; omega))]; (try simp (disch := first | omega | (simp; done) | (simp; omega)) only [World.cell?_alloc_past, World.cell?_drew]); with_reducible exact d1))); obtain ⟨r80, r81, r82, r83, r84, r85, r86, r87⟩ := I8.Q8.get) | (go_at_call 15; refine (HP3.out _).mono ?_; rintro e w9 ⟨rfl, h9⟩; obtain ⟨hc9, hf9⟩ := old_cells h9; (have hs9 := h9.size; (try simp at hs9); have y9 : w5.heap.size < w9.heap.size := (by omega); have zk9 : k8 < w9.heap.size := (by omega)); (try have u9 : w6.heap.size < w9.heap.size := (by omega)); (try have v9 : w8.heap.size < w9.heap.size := (by omega)); (have I9 : In w k7 k8 a b c d P Q w9 := (In.call (by repeat (first | with_reducible exact I7 | with_reducible exact I8 | with_reducible refine In.drew ?_ | with_reducible refine In.alloc ?_ _)) h9)); (have t90 : w9.cell? ⟨w5.heap.size, 0, none⟩ = some (.int .u64 (x : Nat)) := (by (rw [hc9 _ _ (by first | omega | (simp; done) | (simp; omega))]; (try simp (disch := first | omega | (simp; done) | (simp; omega)) only [World.cell?_alloc_past, World.cell?_drew]); with_reducible exact t80))); (have t91 : w9.cell? ⟨w5.heap.size, 1, none⟩ = some (.int .u64 (y : Nat)) := (by (rw [hc9 _ _ (by first | omega | (simp; done) | (simp; omega))]; (try simp (disch := first | omega | (simp; done) | (simp; omega)) only [World.cell?_alloc_past, World.cell?_drew]); with_reducible exact t81))); obtain ⟨r90, r91, r92, r93, r94, r95, r96, r97⟩ := I9.Q8.get; (try (refine have zz : Zeros w9 (w6.heap.size) := ?_; ?_; (focus (intro i hi; rw [hc9 _ _ (by first | omega | (simp; done) | (simp; omega))]; (try simp (disch := first | omega | (simp; done) | (simp; omega)) only [World.cell?_alloc_past, World.cell?_drew]); (try rw [hc8 _ _ (by first | omega | (simp; done) | (simp; omega))]); (try simp (disch := first | omega | (simp; done) | (simp; omega)) only [World.cell?_alloc_past, World.cell?_drew]); rcases eight_of hi with rfl | rfl | rfl | rfl | rfl | rfl | rfl | rfl <;> first | (with_reducible assumption) | (simp [go_sem]; done))); obtain ⟨zz00, zz01, zz02, zz03, zz04, zz05, zz06, zz07⟩ := zz.get; clear zz)); (try (refine have zz : Zeros w9 (w8.heap.size) := ?_; ?_; (focus (intro i hi; rw [hc9 _ _ (by first | omega | (simp; done) | (simp; omega))]; (try simp (disch := first | omega | (simp; done) | (simp; omega)) only [World.cell?_alloc_past, World.cell?_drew]); (try rw [hc8 _ _ (by first | omega | (simp; done) | (simp; omega))]); (try simp (disch := first | omega | (simp; done) | (simp; omega)) only [World.cell?_alloc_past, World.cell?_drew]); rcases eight_of hi with rfl | rfl | rfl | rfl | rfl | rfl | rfl | rfl <;> first | (with_reducible assumption) | (simp [go_sem]; done))); obtain ⟨zz10, zz11, zz12, zz13, zz14, zz15, zz16, zz17⟩ := zz.get; clear zz)); skip))
          all_goals
            go_wp2_with fail
            go_meet
            refine ⟨_, rfl, rfl, ?_, ?_, ?_⟩
            · simp; try omega
            · intro i hi
              rcases eight_of hi with rfl | rfl | rfl | rfl | rfl | rfl | rfl | rfl <;> (simp [go_sem, *]; done)
            · repeat (first | with_reducible exact I9 | with_reducible refine In.drew ?_ | with_reducible refine In.alloc ?_ _ | (with_reducible refine In.store8 ?_ ?_ ?_ ?_ ?_ ?_ _ _ _ _ _ _ _ _; rotate_left; omega; omega; omega; omega; omega))
        case rest =>
          obtain ⟨k9, rfl, rfl, z9, B9, I10⟩ := hcut
          obtain ⟨b0, b1, b2, b3, b4, b5, b6, b7⟩ := B9.get
          clear B9
          obtain ⟨p0, p1, p2, p3, p4, p5, p6, p7, q0, q1, q2, q3, q4, q5, q6, q7, ca, cb, cc, cd, z7, z8, zw, zv⟩ := I10.facts
          go_wp2_with fail
          refine (awake_any _).mono ?_
          rintro e w9 ⟨rfl, h11⟩
          have B10 : Has8 w9 k9 P := fun i hi => by
            rw [h11.cell (p := ⟨k9, i, none⟩) z9]
            rcases eight_of hi with rfl | rfl | rfl | rfl | rfl | rfl | rfl | rfl <;> with_reducible assumption
          have I12 := I10.call h11
          clear b0 b1 b2 b3 b4 b5 b6 b7 p0 p1 p2 p3 p4 p5 p6 p7 q0 q1 q2 q3 q4 q5 q6 q7 ca cb cc cd z7 z8 zw zv
          obtain ⟨b0, b1, b2, b3, b4, b5, b6, b7⟩ := B10.get
          obtain ⟨p0, p1, p2, p3, p4, p5, p6, p7, q0, q1, q2, q3, q4, q5, q6, q7, ca, cb, cc, cd, z7, z8, zw, zv⟩ := I12.facts
          clear B10
          have he := fun (w : World) => eq_num (dg P 0) (dg P 1) (dg P 2) (dg P 3) (dg P 4) (dg P 5) (dg P 6) (dg P 7) w
          have hg := eq_guard
          go_wp2
          go_returns
          exact ⟨rfl, I12.hB⟩
end Go.Proofs.Ytphjpbfahlhliaa
