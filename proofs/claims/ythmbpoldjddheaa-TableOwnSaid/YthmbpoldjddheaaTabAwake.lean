/- Tables: does, whole; the page's example. -/
import Derived.Test.YthmbpoldjddheaaTabDoes2
import Derived.Test.YthmbpoldjddheaaTabDoes3
import Derived.Test.YthmbpoldjddheaaTabDoes4
namespace Go.Proofs.Ythmbpoldjddheaa
open Go.ChangeShapes Go.WideShapes Go.ChangeAt Go.RowKit
theorem does_any (B g h room n : Nat) (a : Nat → Int) (s : Nat → ByteArray) (v : Value) (b : Nat → Int) (u : Nat → ByteArray) (v2 : Value) (k x : Int) (t : ByteArray) (hn : n ≤ 900) (hr : room ≤ 9223372036854775807) (w : World) (hB : B ≤ w.heap.size) (hp : Pair w B g h room n a s v b u v2) :
    Calls Try.prog 12 #[.pointer (some ⟨g, 0, none⟩), .pointer (some ⟨h, 0, none⟩), actV k x t] w (Goes w B g h room n) := by
  by_cases h0 : k = 0
  · exact does_put B g h room n a s v b u v2 k x t h0 hn hr w hB hp
  by_cases h1 : k = 1
  · exact does_set B g h room n a s v b u v2 k x t h1 hn hr w hB hp
  by_cases h2 : k = 2
  · exact does_get B g h room n a s v b u v2 k x t h2 hn hr w hB hp
  exact does_drop B g h room n a s v b u v2 k x t h0 h1 h2 hn hr w hB hp
theorem puts_first {B g : Nat} {a : Nat → Int} {s : Nat → ByteArray} {v : Value} {x : Int} {t : ByteArray} {w w' : World} {e : Ending} (h : Puts B g 2 0 a s v x t w w' e) : e = .returned (.int .i64 0) ∧ ∃ a' s' v', TAt w' B g 2 1 a' s' v' ∧ a' 0 = x ∧ s' 0 = t := by
  cases h with
  | twice i hi => omega
  | full h hr => omega
  | put p v' h hp hr hv ht =>
    have : p = 0 := by have := hp.le; omega
    subst this
    exact ⟨rfl, _, _, v', ht, by simp [insA], by simp [insS]⟩
theorem puts_second {B g : Nat} {a : Nat → Int} {s : Nat → ByteArray} {v : Value} {x : Int} {t : ByteArray} {w w' : World} {e : Ending} (h : Puts B g 2 1 a s v x t w w' e) (hx : x < a 0) : e = .returned (.int .i64 0) ∧ ∃ a' s' v', TAt w' B g 2 2 a' s' v' ∧ a' 0 = x ∧ a' 1 = a 0 ∧ s' 1 = s 0 := by
  cases h with
  | twice i hi he =>
    obtain rfl : i = 0 := by omega
    omega
  | full h hr => omega
  | put p v' h hp hr hv ht =>
    have : p = 0 := by
      have h1 := hp.le
      by_cases e : p = 0
      · exact e
      · have := hp.lo 0 (by omega); omega
    subst this
    exact ⟨rfl, _, _, v', ht, by simp [insA], by simp [insA], by simp [insS]⟩
theorem puts_third {B g : Nat} {a : Nat → Int} {s : Nat → ByteArray} {v : Value} {x : Int} {t : ByteArray} {w w' : World} {e : Ending} (h : Puts B g 2 2 a s v x t w w' e) (h0 : a 0 ≠ x) (h1 : a 1 ≠ x) : e = .returned (.int .i64 6) ∧ TAt w' B g 2 2 a s v := by
  cases h with
  | twice i hi he =>
    have : i = 0 ∨ i = 1 := by omega
    rcases this with rfl | rfl
    · exact absurd he h0
    · exact absurd he h1
  | full h hr ht => exact ⟨rfl, ht⟩
  | put p v' h hp hr hv ht => omega
set_option maxHeartbeats 2000000 in
theorem awake4_any (w : World) : Calls Try.prog 10 #[] w (Ret (.bool true) w) := by
  have HNW := Lib.hid (new_any 2 (fun _ => 0) (fun _ => ⟨#[]⟩) w)
  obtain ⟨B, hB⟩ : ∃ B, w.heap.size = B := ⟨_, rfl⟩
  rw [hB] at HNW
  have HPU := Lib.hid (fun n a s v x t (hn : n ≤ 2) W hW hb => put_any B B 2 n a s v x t (by omega) (by decide) hn W hW hb)
  have HBS := Lib.hid hB
  clear hB
  go_enter Try.func10, Try.ntmps10
  go_wp2_with fail
  refine HNW.out.mono ?_
  rintro e w1 ⟨hb1, rfl, ht1⟩
  have S1 : B ≤ w1.heap.size := by have := hb1.size; have := HBS.out; omega
  have HB1 : Hid (Below B w w1) := hb1
  have HT1 := Lib.hid ht1
  clear hb1 ht1
  go_wp2_with fail
  refine (HPU.out 0 _ _ _ 5 ⟨#[97]⟩ (by decide) w1 HT1.out S1).mono ?_
  rintro e w2 ⟨hk2, hp2⟩
  obtain ⟨rfl, a2, s2, v2, ht2, ea2, es2⟩ := puts_first hp2
  have HB2 : Hid (Below B w w2) := HB1.out.trans (t_below HT1.out hk2 S1)
  have S2 : B ≤ w2.heap.size := Nat.le_trans S1 hk2.size
  have HT2 := Lib.hid ht2
  have HE2 := Lib.hid (And.intro ea2 es2)
  clear hk2 hp2 ht2 ea2 es2
  go_wp2_with fail
  refine (HPU.out 1 _ _ _ 3 ⟨#[98]⟩ (by decide) w2 HT2.out S2).mono ?_
  rintro e w3 ⟨hk3, hp3⟩
  obtain ⟨rfl, a3, s3, v3, ht3, ea3, eb3, es3⟩ := puts_second hp3 (by rw [HE2.out.1]; decide)
  have HB3 : Hid (Below B w w3) := HB2.out.trans (t_below HT2.out hk3 S2)
  have S3 : B ≤ w3.heap.size := Nat.le_trans S2 hk3.size
  have HT3 := Lib.hid ht3
  have HE3 : Hid (a3 0 = 3 ∧ a3 1 = 5 ∧ s3 1 = ⟨#[97]⟩) := ⟨ea3, by rw [eb3, HE2.out.1], by rw [es3, HE2.out.2]⟩
  clear hk3 hp3 ht3 ea3 es3 eb3
  go_wp2_with fail
  refine (HPU.out 2 _ _ _ 4 ⟨#[99]⟩ (by decide) w3 HT3.out S3).mono ?_
  rintro e w4 ⟨hk4, hp4⟩
  obtain ⟨rfl, ht4⟩ := puts_third hp4 (by rw [HE3.out.1]; decide) (by rw [HE3.out.2.1]; decide)
  have HB4 : Hid (Below B w w4) := HB3.out.trans (t_below HT3.out hk4 S3)
  have S4 : B ≤ w4.heap.size := Nat.le_trans S3 hk4.size
  have HT4 := Lib.hid ht4
  clear hk4 hp4 ht4
  have HNR := Lib.hid (near_any B 2 2 a3 s3 4 (by decide) w4 HT4.out.at)
  go_wp2_with fail
  refine HNR.out.mono ?_
  rintro e w5 ⟨hb5, hres⟩
  obtain rfl : e = .returned (.tuple #[rowV 5 ⟨#[97]⟩, .bool true]) := by
    rcases hres with ⟨p, hp, hpl, he⟩ | ⟨hpl, _⟩
    · have hp1 : p = 1 := by
        by_cases e0 : p = 0
        · have := hpl.hi 0 (by omega) (by decide)
          rw [HE3.out.1] at this
          omega
        · omega
      rw [he, hp1, HE3.out.2.1, HE3.out.2.2]
    · have := hpl.lo 1 (by decide)
      rw [HE3.out.2.1] at this
      omega
  have HB5 : Hid (Below B w w5) := HB4.out.trans (hb5.mono S4)
  have S5 : B ≤ w5.heap.size := Nat.le_trans S4 hb5.size
  have HT5 := Lib.hid (HT4.out.under hb5)
  have HLN : Hid (∀ W, Below w5.heap.size w5 W → Calls Try.prog 21 #[.pointer (some ⟨B, 0, none⟩)] W (RetS (.int .i64 (2 : Nat)) W)) := fun W hW => len_any B 2 2 a3 s3 W (HT5.out.at.below hW)
  clear hb5 hres
  unfold rowV
  go_wp2_with fail
  refine (HLN.out _ ((Below.refl _ _).alloc (Nat.le_refl _) _)).mono ?_
  rintro e w6 ⟨rfl, rfl⟩
  have HB6 : Hid (Below B w (w5.alloc (.cells #[.int .i64 5, .string ⟨#[97]⟩] 39))) := HB5.out.alloc S5 _
  go_wp2
  go_ret
  exact ⟨rfl, by have hh := HB6.out; have he := HBS.out; subst he; exact hh⟩
end Go.Proofs.Ythmbpoldjddheaa
