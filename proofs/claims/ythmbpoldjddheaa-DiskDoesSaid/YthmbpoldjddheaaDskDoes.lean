/- DiskDoes, walked (made by gen_dlaw.py). -/
import Derived.Test.YthmbpoldjddheaaDskAwake
import Derived.Test.YthmbpoldjddheaaDskSync
import Derived.Test.YthmbpoldjddheaaDskCut
import Derived.Test.YthmbpoldjddheaaDskRefW
import Derived.Test.YthmbpoldjddheaaDskRefS
import Derived.Test.YthmbpoldjddheaaDskRefC
namespace Go.Proofs.Ythmbpoldjddheaa
open Go.ChangeShapes Go.WideShapes Go.ChangeAt Go.RowKit
theorem keep_block {w w' : World} {g : Nat} {o : Obj} (h : w.heap[g]? = some o) (hb : Below w.heap.size w w') : w'.heap[g]? = some o := (hb.block g (lt_of_block h)).trans h
theorem keep_alloc {w : World} {g : Nat} {o : Obj} (h : w.heap[g]? = some o) (o' : Obj) : (w.alloc o').heap[g]? = some o := (Below.heap_alloc _ _ _ (lt_of_block h)).trans h
theorem dcut_any (s t : ByteArray) (f : Int) (d : Bool) (h : Small s t) (hf : -9223372036854775808 ≤ f ∧ f ≤ 9223372036854775807) (n : Int) (w : World) :
    Calls Try.prog 29 #[.agg #[.string s, .string t, .int .i64 f, .bool d], .int .i64 n] w (Ret (cutV s t f d n) w) := by
  rcases (show t ≠ ⟨#[]⟩ ∨ t = ⟨#[]⟩ from (Classical.em _).symm) with ht | ht
  · rw [show cutV s t f d n = _ from if_neg (fun h => ht h.1)]
    exact cut_w s t f d h n ht w
  · rcases (show n < 0 ∨ (0 ≤ n ∧ (s.size : Int) < n) ∨ (0 ≤ n ∧ n ≤ s.size) by omega) with hn | ⟨hn, hm⟩ | ⟨hn, hm⟩
    · rw [show cutV s t f d n = _ from if_neg (fun h => by omega)]
      exact cut_l s t f d h n ht hn w
    · rw [show cutV s t f d n = _ from if_neg (fun h => by omega)]
      exact cut_m s t f d h n ht hn hm w
    · rw [cutV_ok ⟨ht, hn, hm⟩]
      obtain ⟨k, rfl⟩ : ∃ k : Nat, n = k := ⟨n.toNat, by omega⟩
      rw [show ((k : Nat) : Int).toNat = k by omega]
      exact cut_k s t f d h hf k ht (by omega) w
theorem cutV_form (s t : ByteArray) (f : Int) (d : Bool) (n : Int) : ∃ S T F D E, cutV s t f d n = .tuple #[.agg #[.string S, .string T, .int .i64 F, .bool D], .int .i64 E] := by
  unfold cutV
  split <;> exact opV_form _ _ _ _ _ _ _ _ _
set_option maxHeartbeats 4000000 in
set_option maxRecDepth 100000 in
theorem does_few (s t : ByteArray) (f : Int) (d : Bool) (hs : s.size ≤ 9223372036854775807) (ht : t.size ≤ 9223372036854775807) (x : ByteArray) (hx : x.size ≤ 9223372036854775807) (n : Int) (hl : ¬ (s.size ≤ 1500 ∧ t.size ≤ 1500) ∨ 300 < x.size) (w : World) :
    Calls Try.prog 4 #[.agg #[.string s, .string t, .int .i64 f, .bool d], .string x, .int .i64 n] w (Ret (.bool true) w) := by
  have HA := Lib.hid awake9_any
  have HFE := Lib.hid (fun W => few_any s t f d ⟨hs, ht⟩ W)
  by_cases hfw : s.size ≤ 1500 ∧ t.size ≤ 1500
  · rw [decide_eq_true hfw] at HFE
    have hx3 : 300 < x.size := by rcases hl with h | h; exact absurd hfw h; exact h
    have d1 := decide_eq_true hx3
    have d2 : decide (300 < (x.size : Int)) = true := decide_eq_true (by omega)
    clear hs ht hx hl hfw hx3
    go_enter Try.func4, Try.ntmps4
    go_wp2_with fail
    refine (HFE.out _).mono ?_
    rintro e w1 ⟨rfl, h1⟩
    have HB := Lib.hid (below_box h1)
    clear h1
    go_wp2_with fail
    refine (HA.out _).mono ?_
    rintro e w2 ⟨rfl, h2⟩
    have HB2 := Lib.hid (HB.out.trans (h2.mono HB.out.size))
    clear h2
    go_wp2_with fail
    go_ret
    exact ⟨rfl, HB2.out⟩
  · rw [decide_eq_false hfw] at HFE
    clear hs ht hx hl hfw
    go_enter Try.func4, Try.ntmps4
    go_wp2_with fail
    refine (HFE.out _).mono ?_
    rintro e w1 ⟨rfl, h1⟩
    have HB := Lib.hid (below_box h1)
    clear h1
    go_wp2_with fail
    refine (HA.out _).mono ?_
    rintro e w2 ⟨rfl, h2⟩
    have HB2 := Lib.hid (HB.out.trans (h2.mono HB.out.size))
    clear h2
    go_wp2_with fail
    go_ret
    exact ⟨rfl, HB2.out⟩
set_option maxHeartbeats 8000000 in
set_option maxRecDepth 100000 in
theorem does_main (s t : ByteArray) (f : Int) (d : Bool) (hs : s.size ≤ 1500) (ht : t.size ≤ 1500) (hf : -9223372036854775808 ≤ f ∧ f ≤ 9223372036854775807) (x : ByteArray) (hx : x.size ≤ 300) (n : Int) (w : World) :
    Calls Try.prog 4 #[.agg #[.string s, .string t, .int .i64 f, .bool d], .string x, .int .i64 n] w (Ret (.bool true) w) := by
  have HA := Lib.hid awake9_any
  have HFE := Lib.hid (fun W => few_any s t f d ⟨by omega, by omega⟩ W)
  rw [decide_eq_true ⟨hs, ht⟩] at HFE
  have hsm : Small s t := ⟨by omega, by omega⟩
  have H1 := Lib.hid (fun W => dwrite_any s t f d hsm hf x (by omega) W)
  have H2 := Lib.hid (fun W => refwrite_any s t f d hsm hf x (by omega) W)
  have H3 := Lib.hid (fun W => dsync_any s t f d hsm hf W)
  have H4 := Lib.hid (fun W => refsync_any s t f d hsm hf W)
  have H5 := Lib.hid (fun W => dcut_any s t f d hsm hf n W)
  have H6 := Lib.hid (fun W => refcut_any s t f d hsm hf n W)
  obtain ⟨S1, T1, F1, D1, E1, e1⟩ := opV_form s t f d 0 s (t ++ x) s (t ++ x)
  obtain ⟨S3, T3, F3, D3, E3, e3⟩ := opV_form s t f d 0 s t (s ++ t) ⟨#[]⟩
  obtain ⟨S5, T5, F5, D5, E5, e5⟩ := cutV_form s t f d n
  rw [e1] at H1 H2
  rw [e3] at H3 H4
  rw [e5] at H5 H6
  have d1 : decide (300 < x.size) = false := decide_eq_false (by omega)
  have d2 : decide (300 < (x.size : Int)) = false := decide_eq_false (by omega)
  clear hs ht hf hx hsm e1 e3 e5
  go_enter Try.func4, Try.ntmps4
  go_wp2_with fail
  refine (HFE.out _).mono ?_
  rintro e w1 ⟨rfl, h1⟩
  have HB1 := Lib.hid (below_box h1)
  have HX := Lib.hid (box_kept h1)
  obtain ⟨k0, k1, k2, k3⟩ := four_read (box_kept h1)
  clear h1
  go_wp2_with fail
  refine (H1.out _).mono ?_
  rintro e w2 ⟨rfl, h⟩
  have hx2 := keep_block HX.out h
  have HB2 := Lib.hid (HB1.out.trans (h.mono HB1.out.size))
  have HX2 := Lib.hid (keep_alloc hx2 (.cells #[.string S1, .string T1, .int .i64 F1, .bool D1] 49))
  have HB3 : Hid (Below w.heap.size w (w2.alloc (.cells #[.string S1, .string T1, .int .i64 F1, .bool D1] 49))) := HB2.out.alloc HB2.out.size _
  have Q1 : Hid ((w2.alloc (.cells #[.string S1, .string T1, .int .i64 F1, .bool D1] 49)).heap[w2.heap.size]? = some (.cells #[.string S1, .string T1, .int .i64 F1, .bool D1] 49 (0, 0))) := heap_alloc_new _ _
  obtain ⟨k0', k1', k2', k3'⟩ := four_read HX2.out
  clear h hx2 HB2 k0 k1 k2 k3 HX HB1 H1
  have HX := HX2
  have HB1 := HB3
  clear HX2 HB3
  have k0 := k0'
  have k1 := k1'
  have k2 := k2'
  have k3 := k3'
  clear k0' k1' k2' k3'
  go_wp2_with fail
  refine (H2.out _).mono ?_
  rintro e w3 ⟨rfl, h⟩
  have hx2 := keep_block HX.out h
  have HB2 := Lib.hid (HB1.out.trans (h.mono HB1.out.size))
  have q1 := keep_block Q1.out h
  have HX2 := Lib.hid (keep_alloc hx2 (.cells #[.string S1, .string T1, .int .i64 F1, .bool D1] 49))
  have HB3 : Hid (Below w.heap.size w (w3.alloc (.cells #[.string S1, .string T1, .int .i64 F1, .bool D1] 49))) := HB2.out.alloc HB2.out.size _
  have QQ1 := Lib.hid (keep_alloc q1 (.cells #[.string S1, .string T1, .int .i64 F1, .bool D1] 49))
  have Q2 : Hid ((w3.alloc (.cells #[.string S1, .string T1, .int .i64 F1, .bool D1] 49)).heap[w3.heap.size]? = some (.cells #[.string S1, .string T1, .int .i64 F1, .bool D1] 49 (0, 0))) := heap_alloc_new _ _
  obtain ⟨k0', k1', k2', k3'⟩ := four_read HX2.out
  clear h hx2 HB2 k0 k1 k2 k3 HX HB1 H2 q1 Q1
  have HX := HX2
  have HB1 := HB3
  clear HX2 HB3
  have Q1 := QQ1
  clear QQ1
  have k0 := k0'
  have k1 := k1'
  have k2 := k2'
  have k3 := k3'
  clear k0' k1' k2' k3'
  go_wp2_with fail
  refine (H3.out _).mono ?_
  rintro e w4 ⟨rfl, h⟩
  have hx2 := keep_block HX.out h
  have HB2 := Lib.hid (HB1.out.trans (h.mono HB1.out.size))
  have q1 := keep_block Q1.out h
  have q2 := keep_block Q2.out h
  have HX2 := Lib.hid (keep_alloc hx2 (.cells #[.string S3, .string T3, .int .i64 F3, .bool D3] 49))
  have HB3 : Hid (Below w.heap.size w (w4.alloc (.cells #[.string S3, .string T3, .int .i64 F3, .bool D3] 49))) := HB2.out.alloc HB2.out.size _
  have QQ1 := Lib.hid (keep_alloc q1 (.cells #[.string S3, .string T3, .int .i64 F3, .bool D3] 49))
  have QQ2 := Lib.hid (keep_alloc q2 (.cells #[.string S3, .string T3, .int .i64 F3, .bool D3] 49))
  have Q3 : Hid ((w4.alloc (.cells #[.string S3, .string T3, .int .i64 F3, .bool D3] 49)).heap[w4.heap.size]? = some (.cells #[.string S3, .string T3, .int .i64 F3, .bool D3] 49 (0, 0))) := heap_alloc_new _ _
  obtain ⟨k0', k1', k2', k3'⟩ := four_read HX2.out
  clear h hx2 HB2 k0 k1 k2 k3 HX HB1 H3 q1 Q1 q2 Q2
  have HX := HX2
  have HB1 := HB3
  clear HX2 HB3
  have Q1 := QQ1
  clear QQ1
  have Q2 := QQ2
  clear QQ2
  have k0 := k0'
  have k1 := k1'
  have k2 := k2'
  have k3 := k3'
  clear k0' k1' k2' k3'
  go_wp2_with fail
  refine (H4.out _).mono ?_
  rintro e w5 ⟨rfl, h⟩
  have hx2 := keep_block HX.out h
  have HB2 := Lib.hid (HB1.out.trans (h.mono HB1.out.size))
  have q1 := keep_block Q1.out h
  have q2 := keep_block Q2.out h
  have q3 := keep_block Q3.out h
  have HX2 := Lib.hid (keep_alloc hx2 (.cells #[.string S3, .string T3, .int .i64 F3, .bool D3] 49))
  have HB3 : Hid (Below w.heap.size w (w5.alloc (.cells #[.string S3, .string T3, .int .i64 F3, .bool D3] 49))) := HB2.out.alloc HB2.out.size _
  have QQ1 := Lib.hid (keep_alloc q1 (.cells #[.string S3, .string T3, .int .i64 F3, .bool D3] 49))
  have QQ2 := Lib.hid (keep_alloc q2 (.cells #[.string S3, .string T3, .int .i64 F3, .bool D3] 49))
  have QQ3 := Lib.hid (keep_alloc q3 (.cells #[.string S3, .string T3, .int .i64 F3, .bool D3] 49))
  have Q4 : Hid ((w5.alloc (.cells #[.string S3, .string T3, .int .i64 F3, .bool D3] 49)).heap[w5.heap.size]? = some (.cells #[.string S3, .string T3, .int .i64 F3, .bool D3] 49 (0, 0))) := heap_alloc_new _ _
  obtain ⟨k0', k1', k2', k3'⟩ := four_read HX2.out
  clear h hx2 HB2 k0 k1 k2 k3 HX HB1 H4 q1 Q1 q2 Q2 q3 Q3
  have HX := HX2
  have HB1 := HB3
  clear HX2 HB3
  have Q1 := QQ1
  clear QQ1
  have Q2 := QQ2
  clear QQ2
  have Q3 := QQ3
  clear QQ3
  have k0 := k0'
  have k1 := k1'
  have k2 := k2'
  have k3 := k3'
  clear k0' k1' k2' k3'
  go_wp2_with fail
  refine (H5.out _).mono ?_
  rintro e w6 ⟨rfl, h⟩
  have hx2 := keep_block HX.out h
  have HB2 := Lib.hid (HB1.out.trans (h.mono HB1.out.size))
  have q1 := keep_block Q1.out h
  have q2 := keep_block Q2.out h
  have q3 := keep_block Q3.out h
  have q4 := keep_block Q4.out h
  have HX2 := Lib.hid (keep_alloc hx2 (.cells #[.string S5, .string T5, .int .i64 F5, .bool D5] 49))
  have HB3 : Hid (Below w.heap.size w (w6.alloc (.cells #[.string S5, .string T5, .int .i64 F5, .bool D5] 49))) := HB2.out.alloc HB2.out.size _
  have QQ1 := Lib.hid (keep_alloc q1 (.cells #[.string S5, .string T5, .int .i64 F5, .bool D5] 49))
  have QQ2 := Lib.hid (keep_alloc q2 (.cells #[.string S5, .string T5, .int .i64 F5, .bool D5] 49))
  have QQ3 := Lib.hid (keep_alloc q3 (.cells #[.string S5, .string T5, .int .i64 F5, .bool D5] 49))
  have QQ4 := Lib.hid (keep_alloc q4 (.cells #[.string S5, .string T5, .int .i64 F5, .bool D5] 49))
  have Q5 : Hid ((w6.alloc (.cells #[.string S5, .string T5, .int .i64 F5, .bool D5] 49)).heap[w6.heap.size]? = some (.cells #[.string S5, .string T5, .int .i64 F5, .bool D5] 49 (0, 0))) := heap_alloc_new _ _
  obtain ⟨k0', k1', k2', k3'⟩ := four_read HX2.out
  clear h hx2 HB2 k0 k1 k2 k3 HX HB1 H5 q1 Q1 q2 Q2 q3 Q3 q4 Q4
  have HX := HX2
  have HB1 := HB3
  clear HX2 HB3
  have Q1 := QQ1
  clear QQ1
  have Q2 := QQ2
  clear QQ2
  have Q3 := QQ3
  clear QQ3
  have Q4 := QQ4
  clear QQ4
  have k0 := k0'
  have k1 := k1'
  have k2 := k2'
  have k3 := k3'
  clear k0' k1' k2' k3'
  go_wp2_with fail
  refine (H6.out _).mono ?_
  rintro e w7 ⟨rfl, h⟩
  have hx2 := keep_block HX.out h
  have HB2 := Lib.hid (HB1.out.trans (h.mono HB1.out.size))
  have q1 := keep_block Q1.out h
  have q2 := keep_block Q2.out h
  have q3 := keep_block Q3.out h
  have q4 := keep_block Q4.out h
  have q5 := keep_block Q5.out h
  have HX2 := Lib.hid (keep_alloc hx2 (.cells #[.string S5, .string T5, .int .i64 F5, .bool D5] 49))
  have HB3 : Hid (Below w.heap.size w (w7.alloc (.cells #[.string S5, .string T5, .int .i64 F5, .bool D5] 49))) := HB2.out.alloc HB2.out.size _
  have QQ1 := Lib.hid (keep_alloc q1 (.cells #[.string S5, .string T5, .int .i64 F5, .bool D5] 49))
  have QQ2 := Lib.hid (keep_alloc q2 (.cells #[.string S5, .string T5, .int .i64 F5, .bool D5] 49))
  have QQ3 := Lib.hid (keep_alloc q3 (.cells #[.string S5, .string T5, .int .i64 F5, .bool D5] 49))
  have QQ4 := Lib.hid (keep_alloc q4 (.cells #[.string S5, .string T5, .int .i64 F5, .bool D5] 49))
  have QQ5 := Lib.hid (keep_alloc q5 (.cells #[.string S5, .string T5, .int .i64 F5, .bool D5] 49))
  have Q6 : Hid ((w7.alloc (.cells #[.string S5, .string T5, .int .i64 F5, .bool D5] 49)).heap[w7.heap.size]? = some (.cells #[.string S5, .string T5, .int .i64 F5, .bool D5] 49 (0, 0))) := heap_alloc_new _ _
  obtain ⟨k0', k1', k2', k3'⟩ := four_read HX2.out
  clear h hx2 HB2 k0 k1 k2 k3 HX HB1 H6 q1 Q1 q2 Q2 q3 Q3 q4 Q4 q5 Q5
  have HX := HX2
  have HB1 := HB3
  clear HX2 HB3
  have Q1 := QQ1
  clear QQ1
  have Q2 := QQ2
  clear QQ2
  have Q3 := QQ3
  clear QQ3
  have Q4 := QQ4
  clear QQ4
  have Q5 := QQ5
  clear QQ5
  have k0 := k0'
  have k1 := k1'
  have k2 := k2'
  have k3 := k3'
  clear k0' k1' k2' k3'
  go_wp2_with fail
  refine (HA.out _).mono ?_
  rintro e w8 ⟨rfl, h⟩
  have HB2 := Lib.hid (HB1.out.trans (h.mono HB1.out.size))
  obtain ⟨c10, c11, c12, c13⟩ := four_read (keep_block Q1.out h)
  obtain ⟨c20, c21, c22, c23⟩ := four_read (keep_block Q2.out h)
  obtain ⟨c30, c31, c32, c33⟩ := four_read (keep_block Q3.out h)
  obtain ⟨c40, c41, c42, c43⟩ := four_read (keep_block Q4.out h)
  obtain ⟨c50, c51, c52, c53⟩ := four_read (keep_block Q5.out h)
  obtain ⟨c60, c61, c62, c63⟩ := four_read (keep_block Q6.out h)
  clear h k0 k1 k2 k3 HX HB1 Q1 Q2 Q3 Q4 Q5 Q6 HFE
  go_wp2_with fail
  go_ret
  exact ⟨rfl, HB2.out⟩
end Go.Proofs.Ythmbpoldjddheaa
