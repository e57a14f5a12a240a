/- The laws of layer 6 answer true. -/
import Derived.Test.YtncbieaobadekaaDoorSumRef
import Derived.Laws.Concat
import Derived.Laws.IdiomStrings
namespace Go.Proofs.YtncbieaobadekaaDoor
open Go.ChangeShapes Go.WideShapes Go.ChangeAt Go.RowKit
set_option maxHeartbeats 400000 in
theorem tells_long (n : Int) (s t : ByteArray) (hs : s.size ≤ 9223372036854775807) (ht' : t.size ≤ 9223372036854775807) (h : 300 < s.size ∨ 300 < t.size) (w : World) (ht : Tab w) :
    Calls Tryd.prog 3 #[.int .u32 n, .string s, .string t] w (Ret (.bool true) w) := by
  have HX := Lib.hid (awake_any w ht)
  by_cases h1 : 300 < s.size
  · have d1 : decide ((300 : Int) < s.size) = true := decide_eq_true (by omega)
    clear ht h hs ht' h1
    go_enter Tryd.func3, Tryd.ntmps3
    go_wp2_with fail
    refine HX.out.mono ?_
    rintro e w1 ⟨rfl, rfl⟩
    go_wp2
    go_ret
    exact ⟨rfl, Below.refl _ _⟩
  · have d1 : decide ((300 : Int) < s.size) = false := decide_eq_false (by omega)
    have d2 : decide ((300 : Int) < t.size) = true := decide_eq_true (by omega)
    clear ht h hs ht' h1
    go_enter Tryd.func3, Tryd.ntmps3
    go_wp2_with fail
    refine HX.out.mono ?_
    rintro e w1 ⟨rfl, rfl⟩
    go_wp2
    go_ret
    exact ⟨rfl, Below.refl _ _⟩
theorem append_list (s t : ByteArray) : (s ++ t).data.toList = s.data.toList ++ t.data.toList := by simp [ByteArray.data_append]
set_option maxHeartbeats 1000000 in
theorem tells_short (n : Nat) (hn : n < 4294967296) (s t : ByteArray) (hs : s.size ≤ 300) (ht' : t.size ≤ 300) (w : World) (ht : Tab w) :
    Calls Tryd.prog 3 #[.int .u32 (n : Nat), .string s, .string t] w (Ret (.bool true) w) := by
  have HX := Lib.hid (awake_any w ht)
  have HT := Lib.hid ht
  have d1 : decide ((300 : Int) < s.size) = false := decide_eq_false (by omega)
  have d2 : decide ((300 : Int) < t.size) = false := decide_eq_false (by omega)
  have R0 := Lib.hid (refon_any 0 (by decide) s (by omega) w)
  have R1 := Lib.hid (refon_any _ (sumN_lt 0 s.data.toList) t (by omega) w)
  have O0 := Lib.hid (on_any n hn s (by omega) w ht)
  have R2 := Lib.hid (refon_any n hn s (by omega) w)
  have O1 := Lib.hid (of_any s (by omega) w ht)
  have hadd : ∀ W, (Op.stringOp .add s t).run Tryd.prog W = .ok (.string (s ++ t)) W := fun W => run_string_add_sum W s t (by omega)
  have O2 := Lib.hid (of_any (s ++ t) (by rw [ByteArray.size_append]; omega) w ht)
  have O3 := Lib.hid (fun W b hT h0 h1 => fold_any s t (by omega) (by omega) b W hT h0 h1)
  have O4 := Lib.hid (fun W hT => of_any s (by omega) W hT)
  have O5 := Lib.hid (fun W hT => on_any _ (sumN_lt 0 s.data.toList) t (by omega) W hT)
  rw [sumN_append 0 _ _ (by decide)] at R1 O5
  rw [append_list] at O2
  obtain ⟨u, hu⟩ : ∃ u, u = s ++ t := ⟨_, rfl⟩
  obtain ⟨x, hx⟩ : ∃ x, x = sumN 0 s.data.toList := ⟨_, rfl⟩
  obtain ⟨y, hy⟩ : ∃ y, y = sumN 0 (s.data.toList ++ t.data.toList) := ⟨_, rfl⟩
  obtain ⟨z, hz⟩ : ∃ z, z = sumN n s.data.toList := ⟨_, rfl⟩
  rw [← hx] at R0 R1 O1 O4 O5
  rw [← hy] at R1 O2 O3 O5
  rw [← hz] at O0 R2
  rw [← hu] at O2 hadd
  clear hu hx hy hz ht hs ht' hn
  go_enter Tryd.func3, Tryd.ntmps3
  go_wp2_with fail
  refine R0.out.mono ?_
  rintro e w1 ⟨rfl, rfl⟩
  go_wp2_with fail
  refine R1.out.mono ?_
  rintro e w1 ⟨rfl, rfl⟩
  go_wp2_with fail
  refine HX.out.mono ?_
  rintro e w1 ⟨rfl, rfl⟩
  go_wp2_with fail
  refine O0.out.mono ?_
  rintro e w1 ⟨rfl, rfl⟩
  go_wp2_with fail
  refine R2.out.mono ?_
  rintro e w1 ⟨rfl, rfl⟩
  go_wp2_with fail
  refine O1.out.mono ?_
  rintro e w1 ⟨rfl, rfl⟩
  go_wp2_with fail
  refine R0.out.mono ?_
  rintro e w1 ⟨rfl, rfl⟩
  go_wp2_with fail
  refine O2.out.mono ?_
  rintro e w1 ⟨rfl, rfl⟩
  go_wp2_with fail
  have HB : Hid (Below w.heap.size w (w.alloc (Obj.cells #[Value.string s, Value.string t] 9))) := (Below.refl _ _).alloc (Nat.le_refl _) _
  refine (O3.out _ _ (HT.out.next HB.out) (by rw [World.cell?_alloc_new]; rfl) (by rw [World.cell?_alloc_new]; rfl)).mono ?_
  rintro e w1 ⟨rfl, rfl⟩
  go_wp2_with fail
  refine (O4.out _ (HT.out.next HB.out)).mono ?_
  rintro e w1 ⟨rfl, rfl⟩
  go_wp2_with fail
  refine (O5.out _ (HT.out.next HB.out)).mono ?_
  rintro e w1 ⟨rfl, rfl⟩
  go_wp2
  go_ret
  exact ⟨rfl, HB.out⟩
set_option maxHeartbeats 400000 in
theorem turned_skip (s : ByteArray) (a b : Int) (hs : s.size ≤ 9223372036854775807) (h : s.size < 1 ∨ 300 < s.size ∨ b = 0) (w : World) (ht : Tab w) :
    Calls Tryd.prog 4 #[.string s, .int .u16 a, .int .u8 b] w (Ret (.bool true) w) := by
  have HX := Lib.hid (awake_any w ht)
  by_cases h1 : s.size < 1
  · have d1 : decide ((s.size : Int) < 1) = true := decide_eq_true (by omega)
    clear ht h hs h1
    go_enter Tryd.func4, Tryd.ntmps4
    go_wp2_with fail
    refine HX.out.mono ?_
    rintro e w1 ⟨rfl, rfl⟩
    go_wp2
    go_ret
    exact ⟨rfl, Below.refl _ _⟩
  · have d1 : decide ((s.size : Int) < 1) = false := decide_eq_false (by omega)
    by_cases h2 : 300 < s.size
    · have d2 : decide ((300 : Int) < s.size) = true := decide_eq_true (by omega)
      clear ht h hs h1 h2
      go_enter Tryd.func4, Tryd.ntmps4
      go_wp2_with fail
      refine HX.out.mono ?_
      rintro e w1 ⟨rfl, rfl⟩
      go_wp2
      go_ret
      exact ⟨rfl, Below.refl _ _⟩
    · have d2 : decide ((300 : Int) < s.size) = false := decide_eq_false (by omega)
      obtain rfl : b = 0 := by omega
      clear ht h hs h1 h2
      go_enter Tryd.func4, Tryd.ntmps4
      go_wp2_with fail
      refine HX.out.mono ?_
      rintro e w1 ⟨rfl, rfl⟩
      go_wp2
      go_ret
      exact ⟨rfl, Below.refl _ _⟩
end Go.Proofs.YtncbieaobadekaaDoor
