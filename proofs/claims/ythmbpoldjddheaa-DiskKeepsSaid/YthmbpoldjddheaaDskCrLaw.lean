/- DiskCrashes, walked (made by gen_dcr.py). -/
import Derived.Test.YthmbpoldjddheaaDskAwake
import Derived.Test.YthmbpoldjddheaaDskRefCr
import Derived.Deep.RegionHeld3
namespace Go.Proofs.Ythmbpoldjddheaa
open Go.ChangeShapes Go.WideShapes Go.ChangeAt Go.RowKit
theorem keep_block' {w w' : World} {g : Nat} {o : Obj} (h : w.heap[g]? = some o) (hb : Below w.heap.size w w') : w'.heap[g]? = some o := (hb.block g (lt_of_block h)).trans h
theorem keep_alloc' {w : World} {g : Nat} {o : Obj} (h : w.heap[g]? = some o) (o' : Obj) : (w.alloc o').heap[g]? = some o := (Below.heap_alloc _ _ _ (lt_of_block h)).trans h
theorem ba_front (s x : ByteArray) : (s ++ x).extract 0 s.size = s := by
  apply ByteArray.ext
  rw [ByteArray.data_extract, ByteArray.data_append]
  show (s.data ++ x.data).extract 0 s.data.size = s.data
  simp
theorem ba_back (s x : ByteArray) : (s ++ x).extract s.size (s ++ x).size = x := by
  apply ByteArray.ext
  rw [ByteArray.data_extract, ByteArray.data_append, ByteArray.size_append]
  obtain ⟨a⟩ := s
  obtain ⟨b⟩ := x
  show (a ++ b).extract a.size (a.size + b.size) = b
  simp [Array.extract_append]
theorem pre_front (s t : ByteArray) (k : Nat) : (pre s t k).extract 0 s.size = s := by
  unfold pre
  exact ba_front s _
theorem pre_back (s t : ByteArray) (k : Nat) : (pre s t k).extract s.size (pre s t k).size = t.extract 0 k := by
  unfold pre
  exact ba_back s _
set_option maxHeartbeats 4000000 in
set_option maxRecDepth 100000 in
theorem crashes_few (s t : ByteArray) (f : Int) (d : Bool) (hs : s.size ≤ 9223372036854775807) (ht : t.size ≤ 9223372036854775807) (n : Int) (hl : ¬ (s.size ≤ 1500 ∧ t.size ≤ 1500)) (w : World) :
    Calls Try.prog 5 #[.agg #[.string s, .string t, .int .i64 f, .bool d], .int .i64 n] w (Ret (.bool true) w) := by
  have HA := Lib.hid awake9_any
  have HFE := Lib.hid (fun W => few_any s t f d ⟨hs, ht⟩ W)
  rw [decide_eq_false hl] at HFE
  clear hs ht hl
  go_enter Try.func5, Try.ntmps5
  go_wp2_with fail
  refine (HFE.out _).mono ?_
  rintro e w1 ⟨rfl, h1⟩
  have HB := Lib.hid (below_box h1)
  clear h1
  go_wp2_with fail
  refine (HA.out _).mono ?_
  rintro e w2 ⟨rfl, h2⟩
  have HB2 := Lib.hid (HB.out.trans (h2.mono HB.out.size))
  clear h2
  go_wp2_with fail
  go_ret
  exact ⟨rfl, HB2.out⟩
set_option maxHeartbeats 8000000 in
set_option maxRecDepth 100000 in
theorem crashes_err (s t : ByteArray) (f : Int) (d : Bool) (hs : s.size ≤ 1500) (ht : t.size ≤ 1500) (n : Int) (hf : f < -1) (w : World) :
    Calls Try.prog 5 #[.agg #[.string s, .string t, .int .i64 f, .bool d], .int .i64 n] w (Ret (.bool true) w) := by
  have HA := Lib.hid awake9_any
  have HFE := Lib.hid (fun W => few_any s t f d ⟨by omega, by omega⟩ W)
  rw [decide_eq_true ⟨hs, ht⟩] at HFE
  have hsm : Small s t := ⟨by omega, by omega⟩
  have H1 := Lib.hid (fun W => dcrash_any s t f d hsm n W)
  have H2 := Lib.hid (fun W => refcrash_any s t f d hsm n W)
  have HY := Lib.hid (fun W => dbytes_any s t f d hsm W)
  have HCK := Lib.hid (fun W => dcheck_any s t f d hsm W)
  have hadd : ∀ W, (Op.stringOp .add s t).run Try.prog W = .ok (.string (s ++ t)) W := fun W => run_string_add W s t (by omega) (by omega)
  rw [show crashV s t f d n = _ from if_pos hf] at H1 H2
  rw [show dchk f = 1 from if_pos hf] at HCK
  clear hf hsm
  go_enter Try.func5, Try.ntmps5
  go_wp2_with fail
  refine (HFE.out _).mono ?_
  rintro e w1 ⟨rfl, h1⟩
  have HB1 := Lib.hid (below_box h1)
  have HX := Lib.hid (box_kept h1)
  obtain ⟨k0, k1, k2, k3⟩ := four_read (box_kept h1)
  clear h1
  go_wp2_with fail
  refine (H1.out _).mono ?_
  rintro e w2 ⟨rfl, h⟩
  have hx2 := keep_block' HX.out h
  have HB2 := Lib.hid (HB1.out.trans (h.mono HB1.out.size))
  have HX2 := Lib.hid (keep_alloc' hx2 (.cells #[.string s, .string t, .int .i64 f, .bool d] 49))
  have HB3 : Hid (Below w.heap.size w (w2.alloc (.cells #[.string s, .string t, .int .i64 f, .bool d] 49))) := HB2.out.alloc HB2.out.size _
  have Q1 : Hid ((w2.alloc (.cells #[.string s, .string t, .int .i64 f, .bool d] 49)).heap[w2.heap.size]? = some (.cells #[.string s, .string t, .int .i64 f, .bool d] 49 (0, 0))) := heap_alloc_new _ _
  obtain ⟨k0', k1', k2', k3'⟩ := four_read HX2.out
  clear h hx2 HB2 k0 k1 k2 k3 HX HB1 H1
  have HX := HX2
  have HB1 := HB3
  clear HX2 HB3
  have k0 := k0'
  have k1 := k1'
  have k2 := k2'
  have k3 := k3'
  clear k0' k1' k2' k3'
  go_wp2_with fail
  refine (H2.out _).mono ?_
  rintro e w3 ⟨rfl, h⟩
  have hx2 := keep_block' HX.out h
  have HB2 := Lib.hid (HB1.out.trans (h.mono HB1.out.size))
  have q1 := keep_block' Q1.out h
  have HX2 := Lib.hid (keep_alloc' hx2 (.cells #[.string s, .string t, .int .i64 f, .bool d] 49))
  have HB3 : Hid (Below w.heap.size w (w3.alloc (.cells #[.string s, .string t, .int .i64 f, .bool d] 49))) := HB2.out.alloc HB2.out.size _
  have QQ1 := Lib.hid (keep_alloc' q1 (.cells #[.string s, .string t, .int .i64 f, .bool d] 49))
  have Q2 : Hid ((w3.alloc (.cells #[.string s, .string t, .int .i64 f, .bool d] 49)).heap[w3.heap.size]? = some (.cells #[.string s, .string t, .int .i64 f, .bool d] 49 (0, 0))) := heap_alloc_new _ _
  obtain ⟨k0', k1', k2', k3'⟩ := four_read HX2.out
  clear h hx2 HB2 k0 k1 k2 k3 HX HB1 H2 q1 Q1
  have HX := HX2
  have HB1 := HB3
  clear HX2 HB3
  have Q1 := QQ1
  clear QQ1
  have k0 := k0'
  have k1 := k1'
  have k2 := k2'
  have k3 := k3'
  clear k0' k1' k2' k3'
  obtain ⟨a0, a1, a2, a3⟩ := four_read Q1.out
  obtain ⟨b0, b1, b2, b3⟩ := four_read Q2.out
  go_wp2_with fail
  generalize w3.alloc (.cells #[.string s, .string t, .int .i64 f, .bool d] 49) = w4 at *
  go_region_held3 (fun w' => w'.cell? ⟨w.heap.size, 0, none⟩ = some (.string s) ∧ w'.cell? ⟨w.heap.size, 1, none⟩ = some (.string t) ∧ w'.cell? ⟨w.heap.size, 2, none⟩ = some (.int .i64 f) ∧ w'.cell? ⟨w.heap.size, 3, none⟩ = some (.bool d) ∧ w'.cell? ⟨w2.heap.size, 0, none⟩ = some (.string s) ∧ w'.cell? ⟨w2.heap.size, 1, none⟩ = some (.string t) ∧ w'.cell? ⟨w2.heap.size, 2, none⟩ = some (.int .i64 f) ∧ w'.cell? ⟨w2.heap.size, 3, none⟩ = some (.bool d) ∧ w'.cell? ⟨w3.heap.size, 0, none⟩ = some (.string s) ∧ w'.cell? ⟨w3.heap.size, 1, none⟩ = some (.string t) ∧ w'.cell? ⟨w3.heap.size, 2, none⟩ = some (.int .i64 f) ∧ w'.cell? ⟨w3.heap.size, 3, none⟩ = some (.bool d)) (go_keep) ((go_at_call 33; refine (HY.out _).mono ?_; rintro e w5 ⟨rfl, h5⟩; (have g5 : Below w4.heap.size w4 w5 := (Below.refl _ _).drew.trans h5); (have HB5 := Lib.hid g5); obtain ⟨m0, m1, m2, m3⟩ := four_read (keep_block' HX.out g5); obtain ⟨n0, n1, n2, n3⟩ := four_read (keep_block' Q1.out g5); obtain ⟨p0, p1, p2, p3⟩ := four_read (keep_block' Q2.out g5); clear h5 g5))
  all_goals
    have HX5 := Lib.hid (keep_block' HX.out HB5.out)
    have HB6 := Lib.hid (HB1.out.trans (HB5.out.mono HB1.out.size))
    go_wp2_with fail
    refine (HA.out _).mono ?_
    rintro e w6 ⟨rfl, h6⟩
    have HX6 := Lib.hid (keep_block' HX5.out h6)
    have HB7 := Lib.hid (HB6.out.trans (h6.mono HB6.out.size))
    obtain ⟨r0, r1, r2, r3⟩ := four_read HX6.out
    clear h6
    go_wp2_with fail
    refine (HCK.out _).mono ?_
    rintro e w7 ⟨rfl, h7⟩
    have HB8 := Lib.hid (HB7.out.trans (h7.mono HB7.out.size))
    clear h7
    go_wp2_with fail
    go_ret
    exact ⟨rfl, HB8.out⟩
set_option maxHeartbeats 8000000 in
set_option maxRecDepth 100000 in
theorem crashes_ok (s t : ByteArray) (f : Int) (d : Bool) (hs : s.size ≤ 1500) (ht : t.size ≤ 1500) (n : Int) (hf : ¬ f < -1) (w : World) :
    Calls Try.prog 5 #[.agg #[.string s, .string t, .int .i64 f, .bool d], .int .i64 n] w (Ret (.bool true) w) := by
  have HA := Lib.hid awake9_any
  have HFE := Lib.hid (fun W => few_any s t f d ⟨by omega, by omega⟩ W)
  rw [decide_eq_true ⟨hs, ht⟩] at HFE
  have hsm : Small s t := ⟨by omega, by omega⟩
  have H1 := Lib.hid (fun W => dcrash_any s t f d hsm n W)
  have H2 := Lib.hid (fun W => refcrash_any s t f d hsm n W)
  have HY := Lib.hid (fun W => dbytes_any s t f d hsm W)
  have HCK := Lib.hid (fun W => dcheck_any s t f d hsm W)
  have hadd : ∀ W, (Op.stringOp .add s t).run Try.prog W = .ok (.string (s ++ t)) W := fun W => run_string_add W s t (by omega) (by omega)
  rw [show crashV s t f d n = .tuple #[.agg #[.string (pre s t (keptN t n)), .string ⟨#[]⟩, .int .i64 (-1), .bool false], .int .i64 0] from if_neg hf] at H1 H2
  rw [show dchk f = 0 from if_neg hf] at HCK
  have hkn : keptN t n ≤ t.size := Nat.min_le_right _ _
  have E1 := pre_front s t (keptN t n)
  have E2 := pre_back s t (keptN t n)
  have E3 := pre_size s t (keptN t n) hkn
  obtain ⟨k, hk⟩ : ∃ k, keptN t n = k := ⟨_, rfl⟩
  rw [hk] at H1 H2 E1 E2 E3 hkn
  obtain ⟨A, hA⟩ : ∃ A, pre s t k = A := ⟨_, rfl⟩
  rw [hA] at H1 H2 E1 E2 E3
  clear hk hA
  have g1 : decide ((s.size : Int) ≤ (A.size : Int)) = true := decide_eq_true (by omega)
  have g2 : decide (s.size ≤ A.size) = true := decide_eq_true (by omega)
  have g3 : (s.size : Int) ≤ (A.size : Int) := by omega
  have g4 : s.size ≤ A.size := by omega
  have g5 : (A.size : Int) - (s.size : Int) = (k : Int) := by omega
  have g6 : (k : Int) ≤ (t.size : Int) := by omega
  have gw : wrap64 (k : Int) = (k : Int) := Go.IntWalk.wrap64_in _ (by omega)
  have gx : IntKind.i64.wrap (k : Int) = (k : Int) := wrap_i64 (by omega) (by omega)
  have gv : IntKind.i64.wrap ((A.size : Int) - (s.size : Int)) = (k : Int) := by rw [g5, gx]
  have gu : wrap64 ((A.size : Int) - (s.size : Int)) = (k : Int) := by rw [g5, gw]
  have gk : (0 : Int) ≤ (k : Int) := by omega
  have gs : (0 : Int) ≤ (s.size : Int) := by omega
  clear E3
  clear hf hsm
  go_enter Try.func5, Try.ntmps5
  go_wp2_with fail
  refine (HFE.out _).mono ?_
  rintro e w1 ⟨rfl, h1⟩
  have HB1 := Lib.hid (below_box h1)
  have HX := Lib.hid (box_kept h1)
  obtain ⟨k0, k1, k2, k3⟩ := four_read (box_kept h1)
  clear h1
  go_wp2_with fail
  refine (H1.out _).mono ?_
  rintro e w2 ⟨rfl, h⟩
  have hx2 := keep_block' HX.out h
  have HB2 := Lib.hid (HB1.out.trans (h.mono HB1.out.size))
  have HX2 := Lib.hid (keep_alloc' hx2 (.cells #[.string A, .string ⟨#[]⟩, .int .i64 (-1), .bool false] 49))
  have HB3 : Hid (Below w.heap.size w (w2.alloc (.cells #[.string A, .string ⟨#[]⟩, .int .i64 (-1), .bool false] 49))) := HB2.out.alloc HB2.out.size _
  have Q1 : Hid ((w2.alloc (.cells #[.string A, .string ⟨#[]⟩, .int .i64 (-1), .bool false] 49)).heap[w2.heap.size]? = some (.cells #[.string A, .string ⟨#[]⟩, .int .i64 (-1), .bool false] 49 (0, 0))) := heap_alloc_new _ _
  obtain ⟨k0', k1', k2', k3'⟩ := four_read HX2.out
  clear h hx2 HB2 k0 k1 k2 k3 HX HB1 H1
  have HX := HX2
  have HB1 := HB3
  clear HX2 HB3
  have k0 := k0'
  have k1 := k1'
  have k2 := k2'
  have k3 := k3'
  clear k0' k1' k2' k3'
  go_wp2_with fail
  refine (H2.out _).mono ?_
  rintro e w3 ⟨rfl, h⟩
  have hx2 := keep_block' HX.out h
  have HB2 := Lib.hid (HB1.out.trans (h.mono HB1.out.size))
  have q1 := keep_block' Q1.out h
  have HX2 := Lib.hid (keep_alloc' hx2 (.cells #[.string A, .string ⟨#[]⟩, .int .i64 (-1), .bool false] 49))
  have HB3 : Hid (Below w.heap.size w (w3.alloc (.cells #[.string A, .string ⟨#[]⟩, .int .i64 (-1), .bool false] 49))) := HB2.out.alloc HB2.out.size _
  have QQ1 := Lib.hid (keep_alloc' q1 (.cells #[.string A, .string ⟨#[]⟩, .int .i64 (-1), .bool false] 49))
  have Q2 : Hid ((w3.alloc (.cells #[.string A, .string ⟨#[]⟩, .int .i64 (-1), .bool false] 49)).heap[w3.heap.size]? = some (.cells #[.string A, .string ⟨#[]⟩, .int .i64 (-1), .bool false] 49 (0, 0))) := heap_alloc_new _ _
  obtain ⟨k0', k1', k2', k3'⟩ := four_read HX2.out
  clear h hx2 HB2 k0 k1 k2 k3 HX HB1 H2 q1 Q1
  have HX := HX2
  have HB1 := HB3
  clear HX2 HB3
  have Q1 := QQ1
  clear QQ1
  have k0 := k0'
  have k1 := k1'
  have k2 := k2'
  have k3 := k3'
  clear k0' k1' k2' k3'
  obtain ⟨a0, a1, a2, a3⟩ := four_read Q1.out
  obtain ⟨b0, b1, b2, b3⟩ := four_read Q2.out
  go_wp2_with fail
  generalize w3.alloc (.cells #[.string A, .string ⟨#[]⟩, .int .i64 (-1), .bool false] 49) = w4 at *
  go_region_held3 (fun w' => w'.cell? ⟨w.heap.size, 0, none⟩ = some (.string s) ∧ w'.cell? ⟨w.heap.size, 1, none⟩ = some (.string t) ∧ w'.cell? ⟨w.heap.size, 2, none⟩ = some (.int .i64 f) ∧ w'.cell? ⟨w.heap.size, 3, none⟩ = some (.bool d) ∧ w'.cell? ⟨w2.heap.size, 0, none⟩ = some (.string A) ∧ w'.cell? ⟨w2.heap.size, 1, none⟩ = some (.string ⟨#[]⟩) ∧ w'.cell? ⟨w2.heap.size, 2, none⟩ = some (.int .i64 (-1)) ∧ w'.cell? ⟨w2.heap.size, 3, none⟩ = some (.bool false) ∧ w'.cell? ⟨w3.heap.size, 0, none⟩ = some (.string A) ∧ w'.cell? ⟨w3.heap.size, 1, none⟩ = some (.string ⟨#[]⟩) ∧ w'.cell? ⟨w3.heap.size, 2, none⟩ = some (.int .i64 (-1)) ∧ w'.cell? ⟨w3.heap.size, 3, none⟩ = some (.bool false)) (go_keep) ((go_at_call 33; refine (HY.out _).mono ?_; rintro e w5 ⟨rfl, h5⟩; (have g5 : Below w4.heap.size w4 w5 := (Below.refl _ _).drew.trans h5); (have HB5 := Lib.hid g5); obtain ⟨m0, m1, m2, m3⟩ := four_read (keep_block' HX.out g5); obtain ⟨n0, n1, n2, n3⟩ := four_read (keep_block' Q1.out g5); obtain ⟨p0, p1, p2, p3⟩ := four_read (keep_block' Q2.out g5); clear h5 g5))
  all_goals
    have HX5 := Lib.hid (keep_block' HX.out HB5.out)
    have HQ5 := Lib.hid (keep_block' Q1.out HB5.out)
    have HB6 := Lib.hid (HB1.out.trans (HB5.out.mono HB1.out.size))
    clear a0 a1 a2 a3 b0 b1 b2 b3 p0 p1 p2 p3 k0 k1 k2 k3 n0 n1 n2 n3
    go_wp2_with fail
    obtain ⟨n0, n1, n2, n3⟩ := four_read HQ5.out
    go_region_held3 (fun w' => w'.cell? ⟨w.heap.size, 0, none⟩ = some (.string s) ∧ w'.cell? ⟨w.heap.size, 1, none⟩ = some (.string t) ∧ w'.cell? ⟨w.heap.size, 2, none⟩ = some (.int .i64 f) ∧ w'.cell? ⟨w.heap.size, 3, none⟩ = some (.bool d) ∧ w'.cell? ⟨w2.heap.size, 0, none⟩ = some (.string A)) (go_keep) (first | (go_at_call 24; refine (HA.out _).mono ?_; rintro e w6 ⟨rfl, h6⟩; (have g6 : Below w5.heap.size w5 w6 := (Below.refl _ _).drew.trans h6); (have HB66 := Lib.hid g6); (have HX6 := Lib.hid (keep_block' HX5.out g6)); (have HQ6 := Lib.hid (keep_block' HQ5.out g6)); obtain ⟨o0, o1, o2, o3⟩ := four_read HX6.out; obtain ⟨q0, q1, q2, q3⟩ := four_read HQ6.out; clear h6 g6) | (go_at_call 34; refine (HCK.out _).mono ?_; rintro e w7 ⟨rfl, h7⟩; (have HB77 := Lib.hid h7); obtain ⟨r0, r1, r2, r3⟩ := four_read (keep_block' HX6.out h7); obtain ⟨u0, u1, u2, u3⟩ := four_read (keep_block' HQ6.out h7); clear h7))
    all_goals
      have HB8 := Lib.hid ((HB6.out.trans (HB66.out.mono HB6.out.size)).trans (HB77.out.mono (Nat.le_trans HB6.out.size HB66.out.size)))
      clear o0 o1 o2 o3 q0 q1 q2 q3 r0 r1 r2 r3 u0 u1 u2 u3 n0 n1 n2 n3
      go_wp2_with fail
      go_ret
      exact ⟨rfl, HB8.out⟩
end Go.Proofs.Ythmbpoldjddheaa
