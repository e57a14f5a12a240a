/- The eight things of a config that are looked at (made by gen_cf2.py). -/
import Derived.Test.YthmbpoldjddheaaCfAllM
import Derived.Test.YthmbpoldjddheaaCfAllS
import Derived.Test.YthmbpoldjddheaaCfTicks
import Derived.Test.YthmbpoldjddheaaCfRise
namespace Go.Proofs.Ythmbpoldjddheaa
open Go.ChangeShapes Go.WideShapes Go.ChangeAt Go.RowKit
/-- A config: its slices, its numbers, what is in its slices. -/
structure CF where
  am : Option Addr
  au : Option Addr
  ac : Option Addr
  nm : Nat
  cm : Nat
  ns : Nat
  cs : Nat
  nc : Nat
  cc : Nat
  li : Int
  ca : Int
  le : Int
  tr : Int
  bi : Int
  m1 : Nat → Int
  m2 : Nat → Int
  s1 : Nat → Int
  s2 : Nat → Int
  p : Nat → Int
  q : Nat → Int
  r : Nat → Int
  s : Nat → Int
/-- It lies so in memory, and is small. -/
structure CF.At (c : CF) (w : World) : Prop where
  m : Two w c.am c.nm c.m1 c.m2
  u : Two w c.au c.ns c.s1 c.s2
  y : Four w c.ac c.nc c.p c.q c.r c.s
  few : c.nm ≤ 1000 ∧ c.ns ≤ 1000 ∧ c.nc ≤ 1000
theorem CF.At.below {c : CF} {w w' : World} (h : c.At w) (hb : Below w.heap.size w w') : c.At w' := ⟨h.m.below hb, h.u.below hb, h.y.below hb, h.few⟩
def CF.b1 (c : CF) : Bool := wi 2 16 (c.nm : Int) && allB c.nm (fun i => mMay (c.m1 i) (c.m2 i))
def CF.b2 (c : CF) : Bool := wi 1 8 (c.ns : Int) && allB c.ns (fun i => sMay (c.s1 i) (c.s2 i))
def CF.b3 (c : CF) : Bool := wi 1 4 (c.nc : Int) && allB (c.nc * 4) (upB (tk c.p c.q c.r c.s))
def CF.b4 (c : CF) : Bool := wi 0 1099511627776 c.li
def CF.b5 (c : CF) : Bool := wi 0 1099511627776 c.ca
def CF.b6 (c : CF) : Bool := wi 0 1000 c.le
def CF.b7 (c : CF) : Bool := wi 1 64 c.tr
def CF.b8 (c : CF) : Bool := wi 1 32 c.bi
theorem chk1 (c : CF) (w : World) (h : c.At w) : Calls Try.prog 78 #[.agg #[.slice c.am c.nm c.cm, .slice c.au c.ns c.cs, .slice c.ac c.nc c.cc, .int .i64 c.li, .int .i64 c.ca, .int .i64 c.le, .int .i64 c.tr, .int .i64 c.bi]] w (Ret (.bool c.b1) w) := by
  have H1 := Lib.hid (fun W => within_int (c.nm : Int) 2 16 W)
  have H2 := Lib.hid (fun W (hW : c.At W) => allM c.m1 c.m2 c.nm c.cm c.am h.few.1 W (hW.m))
  have HA := Lib.hid (h.below ((Below.refl _ _).alloc (Nat.le_refl _) (.cells #[.slice c.am c.nm c.cm, .slice c.au c.ns c.cs, .slice c.ac c.nc c.cc, .int .i64 c.li, .int .i64 c.ca, .int .i64 c.le, .int .i64 c.tr, .int .i64 c.bi] 67)))
  unfold CF.b1
  obtain ⟨x, hx⟩ : ∃ x, allB c.nm (fun i => mMay (c.m1 i) (c.m2 i)) = x := ⟨_, rfl⟩
  rw [hx] at H2 ⊢
  clear hx h
  cases hb : wi 2 16 (c.nm : Int) with
  | true =>
    rw [hb] at H1
    rw [Bool.true_and]
    clear hb
    go_enter Try.func78, Try.ntmps78
    go_wp2_with fail
    refine (H1.out _).mono ?_
    rintro e w1 ⟨rfl, rfl⟩
    go_wp2_with fail
    refine (H2.out _ (by exact HA.out)).mono ?_
    rintro e w2 ⟨rfl, h2⟩
    have HB := Lib.hid (belowB h2)
    clear h2
    go_wp2_with fail
    go_ret
    exact ⟨rfl, HB.out⟩
  | false =>
    rw [hb] at H1
    rw [Bool.false_and]
    clear hb
    go_enter Try.func78, Try.ntmps78
    go_wp2_with fail
    refine (H1.out _).mono ?_
    rintro e w1 ⟨rfl, rfl⟩
    go_wp2_with fail
    go_ret
    exact ⟨rfl, by go_grown⟩
theorem chk2 (c : CF) (w : World) (h : c.At w) : Calls Try.prog 82 #[.agg #[.slice c.am c.nm c.cm, .slice c.au c.ns c.cs, .slice c.ac c.nc c.cc, .int .i64 c.li, .int .i64 c.ca, .int .i64 c.le, .int .i64 c.tr, .int .i64 c.bi]] w (Ret (.bool c.b2) w) := by
  have H1 := Lib.hid (fun W => within_int (c.ns : Int) 1 8 W)
  have H2 := Lib.hid (fun W (hW : c.At W) => allS c.s1 c.s2 c.ns c.cs c.au h.few.2.1 W (hW.u))
  have HA := Lib.hid (h.below ((Below.refl _ _).alloc (Nat.le_refl _) (.cells #[.slice c.am c.nm c.cm, .slice c.au c.ns c.cs, .slice c.ac c.nc c.cc, .int .i64 c.li, .int .i64 c.ca, .int .i64 c.le, .int .i64 c.tr, .int .i64 c.bi] 67)))
  unfold CF.b2
  obtain ⟨x, hx⟩ : ∃ x, allB c.ns (fun i => sMay (c.s1 i) (c.s2 i)) = x := ⟨_, rfl⟩
  rw [hx] at H2 ⊢
  clear hx h
  cases hb : wi 1 8 (c.ns : Int) with
  | true =>
    rw [hb] at H1
    rw [Bool.true_and]
    clear hb
    go_enter Try.func82, Try.ntmps82
    go_wp2_with fail
    refine (H1.out _).mono ?_
    rintro e w1 ⟨rfl, rfl⟩
    go_wp2_with fail
    refine (H2.out _ (by exact HA.out)).mono ?_
    rintro e w2 ⟨rfl, h2⟩
    have HB := Lib.hid (belowB h2)
    clear h2
    go_wp2_with fail
    go_ret
    exact ⟨rfl, HB.out⟩
  | false =>
    rw [hb] at H1
    rw [Bool.false_and]
    clear hb
    go_enter Try.func82, Try.ntmps82
    go_wp2_with fail
    refine (H1.out _).mono ?_
    rintro e w1 ⟨rfl, rfl⟩
    go_wp2_with fail
    go_ret
    exact ⟨rfl, by go_grown⟩
theorem chk3 (c : CF) (w : World) (h : c.At w) : Calls Try.prog 85 #[.agg #[.slice c.am c.nm c.cm, .slice c.au c.ns c.cs, .slice c.ac c.nc c.cc, .int .i64 c.li, .int .i64 c.ca, .int .i64 c.le, .int .i64 c.tr, .int .i64 c.bi]] w (Ret (.bool c.b3) w) := by
  have H1 := Lib.hid (fun W => within_int (c.nc : Int) 1 4 W)
  have H2 := Lib.hid (fun W (hW : c.At W) => ticks_any c.am c.au c.ac c.nm c.cm c.ns c.cs c.nc c.cc c.li c.ca c.le c.tr c.bi c.p c.q c.r c.s h.few.2.2 W hW.y)
  have H3 := Lib.hid (fun ao cap W hW => rise_any ao (c.nc * 4) cap (tk c.p c.q c.r c.s) (by have := h.few.2.2; omega) W hW)
  have HA := Lib.hid (h.below ((Below.refl _ _).alloc (Nat.le_refl _) (.cells #[.slice c.am c.nm c.cm, .slice c.au c.ns c.cs, .slice c.ac c.nc c.cc, .int .i64 c.li, .int .i64 c.ca, .int .i64 c.le, .int .i64 c.tr, .int .i64 c.bi] 67)))
  unfold CF.b3
  obtain ⟨x, hx⟩ : ∃ x, allB (c.nc * 4) (upB (tk c.p c.q c.r c.s)) = x := ⟨_, rfl⟩
  rw [hx] at H3 ⊢
  clear hx h
  cases hb : wi 1 4 (c.nc : Int) with
  | true =>
    rw [hb] at H1
    rw [Bool.true_and]
    clear hb
    go_enter Try.func85, Try.ntmps85
    go_wp2_with fail
    refine (H1.out _).mono ?_
    rintro e w1 ⟨rfl, rfl⟩
    go_wp2_with fail
    refine (H2.out _ (by exact HA.out)).mono ?_
    rintro e w2 ⟨h2, ao, cap, rfl, h3⟩
    have HB := Lib.hid (belowB h2)
    have HO := Lib.hid h3
    clear h2 h3
    go_wp2_with fail
    refine (H3.out _ _ _ HO.out).mono ?_
    rintro e w3 ⟨rfl, rfl⟩
    go_wp2_with fail
    go_ret
    exact ⟨rfl, HB.out⟩
  | false =>
    rw [hb] at H1
    rw [Bool.false_and]
    clear hb
    go_enter Try.func85, Try.ntmps85
    go_wp2_with fail
    refine (H1.out _).mono ?_
    rintro e w1 ⟨rfl, rfl⟩
    go_wp2_with fail
    go_ret
    exact ⟨rfl, by go_grown⟩
theorem chk4 (c : CF) (w : World) (_ : c.At w) : Calls Try.prog 87 #[.agg #[.slice c.am c.nm c.cm, .slice c.au c.ns c.cs, .slice c.ac c.nc c.cc, .int .i64 c.li, .int .i64 c.ca, .int .i64 c.le, .int .i64 c.tr, .int .i64 c.bi]] w (Ret (.bool c.b4) w) := by
  have H1 := Lib.hid (fun W => within_i64 c.li 0 1099511627776 W)
  unfold CF.b4
  obtain ⟨x, hx⟩ : ∃ x, wi 0 1099511627776 c.li = x := ⟨_, rfl⟩
  rw [hx] at H1 ⊢
  clear hx
  go_enter Try.func87, Try.ntmps87
  go_wp2_with fail
  refine (H1.out _).mono ?_
  rintro e w1 ⟨rfl, rfl⟩
  go_wp2_with fail
  go_ret
  exact ⟨rfl, by go_grown⟩
theorem chk5 (c : CF) (w : World) (_ : c.At w) : Calls Try.prog 89 #[.agg #[.slice c.am c.nm c.cm, .slice c.au c.ns c.cs, .slice c.ac c.nc c.cc, .int .i64 c.li, .int .i64 c.ca, .int .i64 c.le, .int .i64 c.tr, .int .i64 c.bi]] w (Ret (.bool c.b5) w) := by
  have H1 := Lib.hid (fun W => within_i64 c.ca 0 1099511627776 W)
  unfold CF.b5
  obtain ⟨x, hx⟩ : ∃ x, wi 0 1099511627776 c.ca = x := ⟨_, rfl⟩
  rw [hx] at H1 ⊢
  clear hx
  go_enter Try.func89, Try.ntmps89
  go_wp2_with fail
  refine (H1.out _).mono ?_
  rintro e w1 ⟨rfl, rfl⟩
  go_wp2_with fail
  go_ret
  exact ⟨rfl, by go_grown⟩
theorem chk6 (c : CF) (w : World) (_ : c.At w) : Calls Try.prog 90 #[.agg #[.slice c.am c.nm c.cm, .slice c.au c.ns c.cs, .slice c.ac c.nc c.cc, .int .i64 c.li, .int .i64 c.ca, .int .i64 c.le, .int .i64 c.tr, .int .i64 c.bi]] w (Ret (.bool c.b6) w) := by
  have H1 := Lib.hid (fun W => within_int c.le 0 1000 W)
  unfold CF.b6
  obtain ⟨x, hx⟩ : ∃ x, wi 0 1000 c.le = x := ⟨_, rfl⟩
  rw [hx] at H1 ⊢
  clear hx
  go_enter Try.func90, Try.ntmps90
  go_wp2_with fail
  refine (H1.out _).mono ?_
  rintro e w1 ⟨rfl, rfl⟩
  go_wp2_with fail
  go_ret
  exact ⟨rfl, by go_grown⟩
theorem chk7 (c : CF) (w : World) (_ : c.At w) : Calls Try.prog 91 #[.agg #[.slice c.am c.nm c.cm, .slice c.au c.ns c.cs, .slice c.ac c.nc c.cc, .int .i64 c.li, .int .i64 c.ca, .int .i64 c.le, .int .i64 c.tr, .int .i64 c.bi]] w (Ret (.bool c.b7) w) := by
  have H1 := Lib.hid (fun W => within_int c.tr 1 64 W)
  unfold CF.b7
  obtain ⟨x, hx⟩ : ∃ x, wi 1 64 c.tr = x := ⟨_, rfl⟩
  rw [hx] at H1 ⊢
  clear hx
  go_enter Try.func91, Try.ntmps91
  go_wp2_with fail
  refine (H1.out _).mono ?_
  rintro e w1 ⟨rfl, rfl⟩
  go_wp2_with fail
  go_ret
  exact ⟨rfl, by go_grown⟩
theorem chk8 (c : CF) (w : World) (_ : c.At w) : Calls Try.prog 92 #[.agg #[.slice c.am c.nm c.cm, .slice c.au c.ns c.cs, .slice c.ac c.nc c.cc, .int .i64 c.li, .int .i64 c.ca, .int .i64 c.le, .int .i64 c.tr, .int .i64 c.bi]] w (Ret (.bool c.b8) w) := by
  have H1 := Lib.hid (fun W => within_int c.bi 1 32 W)
  unfold CF.b8
  obtain ⟨x, hx⟩ : ∃ x, wi 1 32 c.bi = x := ⟨_, rfl⟩
  rw [hx] at H1 ⊢
  clear hx
  go_enter Try.func92, Try.ntmps92
  go_wp2_with fail
  refine (H1.out _).mono ?_
  rintro e w1 ⟨rfl, rfl⟩
  go_wp2_with fail
  go_ret
  exact ⟨rfl, by go_grown⟩
theorem checks_any (w : World) : Calls Try.prog 64 #[] w (fun e w' => e = .returned (.slice (some ⟨w.heap.size, 0, none⟩) 8 8) ∧ w' = w.alloc (.cells #[.string ⟨#[109, 101, 109, 98, 101, 114, 115]⟩, .func (.func 78) #[] #[], .string ⟨#[115, 101, 99, 115]⟩, .func (.func 82) #[] #[], .string ⟨#[99, 121, 99, 108, 101, 115]⟩, .func (.func 85) #[] #[], .string ⟨#[108, 105, 110, 101]⟩, .func (.func 87) #[] #[], .string ⟨#[99, 97, 112, 105, 116, 97, 108]⟩, .func (.func 89) #[] #[], .string ⟨#[108, 101, 97, 100]⟩, .func (.func 90) #[] #[], .string ⟨#[116, 114, 97, 100, 101, 115]⟩, .func (.func 91) #[] #[], .string ⟨#[98, 105, 100, 115]⟩, .func (.func 92) #[] #[]] 109)) := by
  go_enter Try.func64, Try.ntmps64
  go_wp2_with fail
  go_ret
  exact ⟨rfl, rfl⟩
end Go.Proofs.Ythmbpoldjddheaa
