/- Wrong and Check (made by gen_cf2.py). -/
import Derived.Test.YthmbpoldjddheaaCfChecks
import Derived.Laws.EntriesVeiled
namespace Go.Proofs.Ythmbpoldjddheaa
open Go.ChangeShapes Go.WideShapes Go.ChangeAt Go.RowKit
def CF.b (c : CF) : Nat → Bool
  | 0 => c.b1
  | 1 => c.b2
  | 2 => c.b3
  | 3 => c.b4
  | 4 => c.b5
  | 5 => c.b6
  | 6 => c.b7
  | 7 => c.b8
  | _ => true
/-- The word of the first thing that is wrong. -/
def CF.word (c : CF) : ByteArray :=
  if c.b1 = false then ⟨#[109, 101, 109, 98, 101, 114, 115]⟩ else if c.b2 = false then ⟨#[115, 101, 99, 115]⟩ else if c.b3 = false then ⟨#[99, 121, 99, 108, 101, 115]⟩ else if c.b4 = false then ⟨#[108, 105, 110, 101]⟩ else if c.b5 = false then ⟨#[99, 97, 112, 105, 116, 97, 108]⟩ else if c.b6 = false then ⟨#[108, 101, 97, 100]⟩ else if c.b7 = false then ⟨#[116, 114, 97, 100, 101, 115]⟩ else if c.b8 = false then ⟨#[98, 105, 100, 115]⟩ else ⟨#[]⟩
set_option maxHeartbeats 8000000 in
set_option maxRecDepth 100000 in
theorem wrong_any (c : CF) (w : World) (h : c.At w) : Calls Try.prog 39 #[.agg #[.slice c.am c.nm c.cm, .slice c.au c.ns c.cs, .slice c.ac c.nc c.cc, .int .i64 c.li, .int .i64 c.ca, .int .i64 c.le, .int .i64 c.tr, .int .i64 c.bi]] w (Ret (.string c.word) w) := by
  have HCH := Lib.hid checks_any
  have HAT := Lib.hid h
  have HC0 : Hid (((w.alloc (.cells #[.slice c.am c.nm c.cm, .slice c.au c.ns c.cs, .slice c.ac c.nc c.cc, .int .i64 c.li, .int .i64 c.ca, .int .i64 c.le, .int .i64 c.tr, .int .i64 c.bi] 67)).alloc (.cells #[.string ⟨#[109, 101, 109, 98, 101, 114, 115]⟩, .func (.func 78) #[] #[], .string ⟨#[115, 101, 99, 115]⟩, .func (.func 82) #[] #[], .string ⟨#[99, 121, 99, 108, 101, 115]⟩, .func (.func 85) #[] #[], .string ⟨#[108, 105, 110, 101]⟩, .func (.func 87) #[] #[], .string ⟨#[99, 97, 112, 105, 116, 97, 108]⟩, .func (.func 89) #[] #[], .string ⟨#[108, 101, 97, 100]⟩, .func (.func 90) #[] #[], .string ⟨#[116, 114, 97, 100, 101, 115]⟩, .func (.func 91) #[] #[], .string ⟨#[98, 105, 100, 115]⟩, .func (.func 92) #[] #[]] 109)).heap[w.heap.size]? = some (.cells #[.slice c.am c.nm c.cm, .slice c.au c.ns c.cs, .slice c.ac c.nc c.cc, .int .i64 c.li, .int .i64 c.ca, .int .i64 c.le, .int .i64 c.tr, .int .i64 c.bi] 67 (0, 0))) := keepA (heap_alloc_new _ _) _
  have HT0 : Hid (((w.alloc (.cells #[.slice c.am c.nm c.cm, .slice c.au c.ns c.cs, .slice c.ac c.nc c.cc, .int .i64 c.li, .int .i64 c.ca, .int .i64 c.le, .int .i64 c.tr, .int .i64 c.bi] 67)).alloc (.cells #[.string ⟨#[109, 101, 109, 98, 101, 114, 115]⟩, .func (.func 78) #[] #[], .string ⟨#[115, 101, 99, 115]⟩, .func (.func 82) #[] #[], .string ⟨#[99, 121, 99, 108, 101, 115]⟩, .func (.func 85) #[] #[], .string ⟨#[108, 105, 110, 101]⟩, .func (.func 87) #[] #[], .string ⟨#[99, 97, 112, 105, 116, 97, 108]⟩, .func (.func 89) #[] #[], .string ⟨#[108, 101, 97, 100]⟩, .func (.func 90) #[] #[], .string ⟨#[116, 114, 97, 100, 101, 115]⟩, .func (.func 91) #[] #[], .string ⟨#[98, 105, 100, 115]⟩, .func (.func 92) #[] #[]] 109)).heap[w.heap.size + 1]? = some (.cells #[.string ⟨#[109, 101, 109, 98, 101, 114, 115]⟩, .func (.func 78) #[] #[], .string ⟨#[115, 101, 99, 115]⟩, .func (.func 82) #[] #[], .string ⟨#[99, 121, 99, 108, 101, 115]⟩, .func (.func 85) #[] #[], .string ⟨#[108, 105, 110, 101]⟩, .func (.func 87) #[] #[], .string ⟨#[99, 97, 112, 105, 116, 97, 108]⟩, .func (.func 89) #[] #[], .string ⟨#[108, 101, 97, 100]⟩, .func (.func 90) #[] #[], .string ⟨#[116, 114, 97, 100, 101, 115]⟩, .func (.func 91) #[] #[], .string ⟨#[98, 105, 100, 115]⟩, .func (.func 92) #[] #[]] 109 (0, 0))) := by
    have h := heap_alloc_new (w.alloc (.cells #[.slice c.am c.nm c.cm, .slice c.au c.ns c.cs, .slice c.ac c.nc c.cc, .int .i64 c.li, .int .i64 c.ca, .int .i64 c.le, .int .i64 c.tr, .int .i64 c.bi] 67)) (.cells #[.string ⟨#[109, 101, 109, 98, 101, 114, 115]⟩, .func (.func 78) #[] #[], .string ⟨#[115, 101, 99, 115]⟩, .func (.func 82) #[] #[], .string ⟨#[99, 121, 99, 108, 101, 115]⟩, .func (.func 85) #[] #[], .string ⟨#[108, 105, 110, 101]⟩, .func (.func 87) #[] #[], .string ⟨#[99, 97, 112, 105, 116, 97, 108]⟩, .func (.func 89) #[] #[], .string ⟨#[108, 101, 97, 100]⟩, .func (.func 90) #[] #[], .string ⟨#[116, 114, 97, 100, 101, 115]⟩, .func (.func 91) #[] #[], .string ⟨#[98, 105, 100, 115]⟩, .func (.func 92) #[] #[]] 109)
    rwa [World.size_alloc] at h
  have HB0 : Hid (Below w.heap.size w ((w.alloc (.cells #[.slice c.am c.nm c.cm, .slice c.au c.ns c.cs, .slice c.ac c.nc c.cc, .int .i64 c.li, .int .i64 c.ca, .int .i64 c.le, .int .i64 c.tr, .int .i64 c.bi] 67)).alloc (.cells #[.string ⟨#[109, 101, 109, 98, 101, 114, 115]⟩, .func (.func 78) #[] #[], .string ⟨#[115, 101, 99, 115]⟩, .func (.func 82) #[] #[], .string ⟨#[99, 121, 99, 108, 101, 115]⟩, .func (.func 85) #[] #[], .string ⟨#[108, 105, 110, 101]⟩, .func (.func 87) #[] #[], .string ⟨#[99, 97, 112, 105, 116, 97, 108]⟩, .func (.func 89) #[] #[], .string ⟨#[108, 101, 97, 100]⟩, .func (.func 90) #[] #[], .string ⟨#[116, 114, 97, 100, 101, 115]⟩, .func (.func 91) #[] #[], .string ⟨#[98, 105, 100, 115]⟩, .func (.func 92) #[] #[]] 109))) := ((Below.refl _ _).alloc (Nat.le_refl _) _).alloc (by simp) _
  clear h
  go_enter Try.func39, Try.ntmps39
  go_wp2_with fail
  refine (HCH.out _).mono ?_
  rintro e w1 ⟨rfl, rfl⟩
  go_wp2_with fail
  generalize (w.alloc (.cells #[.slice c.am c.nm c.cm, .slice c.au c.ns c.cs, .slice c.ac c.nc c.cc, .int .i64 c.li, .int .i64 c.ca, .int .i64 c.le, .int .i64 c.tr, .int .i64 c.bi] 67)).alloc (.cells #[.string ⟨#[109, 101, 109, 98, 101, 114, 115]⟩, .func (.func 78) #[] #[], .string ⟨#[115, 101, 99, 115]⟩, .func (.func 82) #[] #[], .string ⟨#[99, 121, 99, 108, 101, 115]⟩, .func (.func 85) #[] #[], .string ⟨#[108, 105, 110, 101]⟩, .func (.func 87) #[] #[], .string ⟨#[99, 97, 112, 105, 116, 97, 108]⟩, .func (.func 89) #[] #[], .string ⟨#[108, 101, 97, 100]⟩, .func (.func 90) #[] #[], .string ⟨#[116, 114, 97, 100, 101, 115]⟩, .func (.func 91) #[] #[], .string ⟨#[98, 105, 100, 115]⟩, .func (.func 92) #[] #[]] 109) = w1 at *
  go_loopw [7] (fun iv wr => ∃ i : Nat, i ≤ 8 ∧ iv = .int .i64 i ∧ (∀ k, k < i → c.b k = true) ∧ Hid (Below w.heap.size w wr) ∧ Hid (wr.heap[w.heap.size]? = some (.cells #[.slice c.am c.nm c.cm, .slice c.au c.ns c.cs, .slice c.ac c.nc c.cc, .int .i64 c.li, .int .i64 c.ca, .int .i64 c.le, .int .i64 c.tr, .int .i64 c.bi] 67 (0, 0))) ∧ Hid (wr.heap[w.heap.size + 1]? = some (.cells #[.string ⟨#[109, 101, 109, 98, 101, 114, 115]⟩, .func (.func 78) #[] #[], .string ⟨#[115, 101, 99, 115]⟩, .func (.func 82) #[] #[], .string ⟨#[99, 121, 99, 108, 101, 115]⟩, .func (.func 85) #[] #[], .string ⟨#[108, 105, 110, 101]⟩, .func (.func 87) #[] #[], .string ⟨#[99, 97, 112, 105, 116, 97, 108]⟩, .func (.func 89) #[] #[], .string ⟨#[108, 101, 97, 100]⟩, .func (.func 90) #[] #[], .string ⟨#[116, 114, 97, 100, 101, 115]⟩, .func (.func 91) #[] #[], .string ⟨#[98, 105, 100, 115]⟩, .func (.func 92) #[] #[]] 109 (0, 0)))) (fun iv _ => 8 - (intOf iv).toNat)
  case atStart => exact ⟨0, by decide, rfl, fun k hk => by omega, HB0.out, HC0.out, HT0.out⟩
  case round =>
    clear HB0 HC0 HT0
    obtain ⟨i, hi, rfl, hup, HB, HC, HT⟩ := hrel
    have HU := Lib.hid hup
    clear hup
    have HA := Lib.hid (HAT.out.below HB.out)
    rcases (show i = 0 ∨ i = 1 ∨ i = 2 ∨ i = 3 ∨ i = 4 ∨ i = 5 ∨ i = 6 ∨ i = 7 ∨ i = 8 by omega) with rfl | rfl | rfl | rfl | rfl | rfl | rfl | rfl | rfl
    · have t0 : wr.cell? ⟨w.heap.size + 1, 0, none⟩ = some (.string ⟨#[109, 101, 109, 98, 101, 114, 115]⟩) := by simp [World.cell?, HT.out]
      have t1 : wr.cell? ⟨w.heap.size + 1, 1, none⟩ = some (.func (.func 78) #[] #[]) := by simp [World.cell?, HT.out]
      have hk := keepA HC.out (.cells #[.string ⟨#[109, 101, 109, 98, 101, 114, 115]⟩, .func (.func 78) #[] #[]] 109)
      have k0 : (wr.alloc (.cells #[.string ⟨#[109, 101, 109, 98, 101, 114, 115]⟩, .func (.func 78) #[] #[]] 109)).cell? ⟨w.heap.size, 0, none⟩ = some (.slice c.am c.nm c.cm) := by simp [World.cell?, hk]
      have k1 : (wr.alloc (.cells #[.string ⟨#[109, 101, 109, 98, 101, 114, 115]⟩, .func (.func 78) #[] #[]] 109)).cell? ⟨w.heap.size, 1, none⟩ = some (.slice c.au c.ns c.cs) := by simp [World.cell?, hk]
      have k2 : (wr.alloc (.cells #[.string ⟨#[109, 101, 109, 98, 101, 114, 115]⟩, .func (.func 78) #[] #[]] 109)).cell? ⟨w.heap.size, 2, none⟩ = some (.slice c.ac c.nc c.cc) := by simp [World.cell?, hk]
      have k3 : (wr.alloc (.cells #[.string ⟨#[109, 101, 109, 98, 101, 114, 115]⟩, .func (.func 78) #[] #[]] 109)).cell? ⟨w.heap.size, 3, none⟩ = some (.int .i64 c.li) := by simp [World.cell?, hk]
      have k4 : (wr.alloc (.cells #[.string ⟨#[109, 101, 109, 98, 101, 114, 115]⟩, .func (.func 78) #[] #[]] 109)).cell? ⟨w.heap.size, 4, none⟩ = some (.int .i64 c.ca) := by simp [World.cell?, hk]
      have k5 : (wr.alloc (.cells #[.string ⟨#[109, 101, 109, 98, 101, 114, 115]⟩, .func (.func 78) #[] #[]] 109)).cell? ⟨w.heap.size, 5, none⟩ = some (.int .i64 c.le) := by simp [World.cell?, hk]
      have k6 : (wr.alloc (.cells #[.string ⟨#[109, 101, 109, 98, 101, 114, 115]⟩, .func (.func 78) #[] #[]] 109)).cell? ⟨w.heap.size, 6, none⟩ = some (.int .i64 c.tr) := by simp [World.cell?, hk]
      have k7 : (wr.alloc (.cells #[.string ⟨#[109, 101, 109, 98, 101, 114, 115]⟩, .func (.func 78) #[] #[]] 109)).cell? ⟨w.heap.size, 7, none⟩ = some (.int .i64 c.bi) := by simp [World.cell?, hk]
      have HX := Lib.hid (chk1 c (wr.alloc (.cells #[.string ⟨#[109, 101, 109, 98, 101, 114, 115]⟩, .func (.func 78) #[] #[]] 109)) (HA.out.below ((Below.refl _ _).alloc (Nat.le_refl _) _)))
      have HB2 : Hid (Below w.heap.size w (wr.alloc (.cells #[.string ⟨#[109, 101, 109, 98, 101, 114, 115]⟩, .func (.func 78) #[] #[]] 109))) := HB.out.alloc HB.out.size _
      have HC2 := Lib.hid hk
      have HT2 := Lib.hid (keepA HT.out (.cells #[.string ⟨#[109, 101, 109, 98, 101, 114, 115]⟩, .func (.func 78) #[] #[]] 109))
      clear hk
      cases hm : c.b1 with
      | true =>
        rw [hm] at HX
        have HM := Lib.hid hm
        clear hm
        go_wp2_with fail
        refine HX.out.mono ?_
        rintro e w2 ⟨rfl, h2⟩
        have HB3 := Lib.hid (HB2.out.trans (h2.mono HB2.out.size))
        have HC3 := Lib.hid (keepB HC2.out h2)
        have HT3 := Lib.hid (keepB HT2.out h2)
        clear h2 HX t0 t1 k0 k1 k2 k3 k4 k5 k6 k7 HB2 HC2 HT2 HC HT HB
        go_wp2_with fail
        go_roundw
        case rel => exact ⟨1, by decide, by first | rfl | go_num, fun k hk => by
          by_cases hkj : k = 0
          · rw [hkj]; exact HM.out
          · exact HU.out k (by omega), HB3.out, HC3.out, HT3.out⟩
        case measure => simp [intOf]
      | false =>
        rw [hm] at HX
        have HM := Lib.hid hm
        clear hm
        have HE : Hid (c.word = ⟨#[109, 101, 109, 98, 101, 114, 115]⟩) := by
          show c.word = _
          have hm := HM.out
          unfold CF.word
          simp [hm]
        go_wp2_with fail
        refine HX.out.mono ?_
        rintro e w2 ⟨rfl, h2⟩
        have HB3 := Lib.hid (HB2.out.trans (h2.mono HB2.out.size))
        have hh := keepB (heap_alloc_new wr (.cells #[.string ⟨#[109, 101, 109, 98, 101, 114, 115]⟩, .func (.func 78) #[] #[]] 109)) h2
        have v0 : w2.cell? ⟨wr.heap.size, 0, none⟩ = some (.string ⟨#[109, 101, 109, 98, 101, 114, 115]⟩) := by simp [World.cell?, hh]
        clear h2 hh HX t0 t1 k0 k1 k2 k3 k4 k5 k6 k7 HB2 HC2 HT2 HC HT HB
        go_wp2_with fail
        go_ret
        exact ⟨by rw [HE.out]; rfl, HB3.out⟩
    · have t0 : wr.cell? ⟨w.heap.size + 1, 2, none⟩ = some (.string ⟨#[115, 101, 99, 115]⟩) := by simp [World.cell?, HT.out]
      have t1 : wr.cell? ⟨w.heap.size + 1, 3, none⟩ = some (.func (.func 82) #[] #[]) := by simp [World.cell?, HT.out]
      have hk := keepA HC.out (.cells #[.string ⟨#[115, 101, 99, 115]⟩, .func (.func 82) #[] #[]] 109)
      have k0 : (wr.alloc (.cells #[.string ⟨#[115, 101, 99, 115]⟩, .func (.func 82) #[] #[]] 109)).cell? ⟨w.heap.size, 0, none⟩ = some (.slice c.am c.nm c.cm) := by simp [World.cell?, hk]
      have k1 : (wr.alloc (.cells #[.string ⟨#[115, 101, 99, 115]⟩, .func (.func 82) #[] #[]] 109)).cell? ⟨w.heap.size, 1, none⟩ = some (.slice c.au c.ns c.cs) := by simp [World.cell?, hk]
      have k2 : (wr.alloc (.cells #[.string ⟨#[115, 101, 99, 115]⟩, .func (.func 82) #[] #[]] 109)).cell? ⟨w.heap.size, 2, none⟩ = some (.slice c.ac c.nc c.cc) := by simp [World.cell?, hk]
      have k3 : (wr.alloc (.cells #[.string ⟨#[115, 101, 99, 115]⟩, .func (.func 82) #[] #[]] 109)).cell? ⟨w.heap.size, 3, none⟩ = some (.int .i64 c.li) := by simp [World.cell?, hk]
      have k4 : (wr.alloc (.cells #[.string ⟨#[115, 101, 99, 115]⟩, .func (.func 82) #[] #[]] 109)).cell? ⟨w.heap.size, 4, none⟩ = some (.int .i64 c.ca) := by simp [World.cell?, hk]
      have k5 : (wr.alloc (.cells #[.string ⟨#[115, 101, 99, 115]⟩, .func (.func 82) #[] #[]] 109)).cell? ⟨w.heap.size, 5, none⟩ = some (.int .i64 c.le) := by simp [World.cell?, hk]
      have k6 : (wr.alloc (.cells #[.string ⟨#[115, 101, 99, 115]⟩, .func (.func 82) #[] #[]] 109)).cell? ⟨w.heap.size, 6, none⟩ = some (.int .i64 c.tr) := by simp [World.cell?, hk]
      have k7 : (wr.alloc (.cells #[.string ⟨#[115, 101, 99, 115]⟩, .func (.func 82) #[] #[]] 109)).cell? ⟨w.heap.size, 7, none⟩ = some (.int .i64 c.bi) := by simp [World.cell?, hk]
      have HX := Lib.hid (chk2 c (wr.alloc (.cells #[.string ⟨#[115, 101, 99, 115]⟩, .func (.func 82) #[] #[]] 109)) (HA.out.below ((Below.refl _ _).alloc (Nat.le_refl _) _)))
      have HB2 : Hid (Below w.heap.size w (wr.alloc (.cells #[.string ⟨#[115, 101, 99, 115]⟩, .func (.func 82) #[] #[]] 109))) := HB.out.alloc HB.out.size _
      have HC2 := Lib.hid hk
      have HT2 := Lib.hid (keepA HT.out (.cells #[.string ⟨#[115, 101, 99, 115]⟩, .func (.func 82) #[] #[]] 109))
      clear hk
      cases hm : c.b2 with
      | true =>
        rw [hm] at HX
        have HM := Lib.hid hm
        clear hm
        go_wp2_with fail
        refine HX.out.mono ?_
        rintro e w2 ⟨rfl, h2⟩
        have HB3 := Lib.hid (HB2.out.trans (h2.mono HB2.out.size))
        have HC3 := Lib.hid (keepB HC2.out h2)
        have HT3 := Lib.hid (keepB HT2.out h2)
        clear h2 HX t0 t1 k0 k1 k2 k3 k4 k5 k6 k7 HB2 HC2 HT2 HC HT HB
        go_wp2_with fail
        go_roundw
        case rel => exact ⟨2, by decide, by first | rfl | go_num, fun k hk => by
          by_cases hkj : k = 1
          · rw [hkj]; exact HM.out
          · exact HU.out k (by omega), HB3.out, HC3.out, HT3.out⟩
        case measure => simp [intOf]
      | false =>
        rw [hm] at HX
        have HM := Lib.hid hm
        clear hm
        have HE : Hid (c.word = ⟨#[115, 101, 99, 115]⟩) := by
          show c.word = _
          have hm := HM.out
          have e0 : c.b1 = true := HU.out 0 (by decide)
          unfold CF.word
          simp [e0, hm]
        go_wp2_with fail
        refine HX.out.mono ?_
        rintro e w2 ⟨rfl, h2⟩
        have HB3 := Lib.hid (HB2.out.trans (h2.mono HB2.out.size))
        have hh := keepB (heap_alloc_new wr (.cells #[.string ⟨#[115, 101, 99, 115]⟩, .func (.func 82) #[] #[]] 109)) h2
        have v0 : w2.cell? ⟨wr.heap.size, 0, none⟩ = some (.string ⟨#[115, 101, 99, 115]⟩) := by simp [World.cell?, hh]
        clear h2 hh HX t0 t1 k0 k1 k2 k3 k4 k5 k6 k7 HB2 HC2 HT2 HC HT HB
        go_wp2_with fail
        go_ret
        exact ⟨by rw [HE.out]; rfl, HB3.out⟩
    · have t0 : wr.cell? ⟨w.heap.size + 1, 4, none⟩ = some (.string ⟨#[99, 121, 99, 108, 101, 115]⟩) := by simp [World.cell?, HT.out]
      have t1 : wr.cell? ⟨w.heap.size + 1, 5, none⟩ = some (.func (.func 85) #[] #[]) := by simp [World.cell?, HT.out]
      have hk := keepA HC.out (.cells #[.string ⟨#[99, 121, 99, 108, 101, 115]⟩, .func (.func 85) #[] #[]] 109)
      have k0 : (wr.alloc (.cells #[.string ⟨#[99, 121, 99, 108, 101, 115]⟩, .func (.func 85) #[] #[]] 109)).cell? ⟨w.heap.size, 0, none⟩ = some (.slice c.am c.nm c.cm) := by simp [World.cell?, hk]
      have k1 : (wr.alloc (.cells #[.string ⟨#[99, 121, 99, 108, 101, 115]⟩, .func (.func 85) #[] #[]] 109)).cell? ⟨w.heap.size, 1, none⟩ = some (.slice c.au c.ns c.cs) := by simp [World.cell?, hk]
      have k2 : (wr.alloc (.cells #[.string ⟨#[99, 121, 99, 108, 101, 115]⟩, .func (.func 85) #[] #[]] 109)).cell? ⟨w.heap.size, 2, none⟩ = some (.slice c.ac c.nc c.cc) := by simp [World.cell?, hk]
      have k3 : (wr.alloc (.cells #[.string ⟨#[99, 121, 99, 108, 101, 115]⟩, .func (.func 85) #[] #[]] 109)).cell? ⟨w.heap.size, 3, none⟩ = some (.int .i64 c.li) := by simp [World.cell?, hk]
      have k4 : (wr.alloc (.cells #[.string ⟨#[99, 121, 99, 108, 101, 115]⟩, .func (.func 85) #[] #[]] 109)).cell? ⟨w.heap.size, 4, none⟩ = some (.int .i64 c.ca) := by simp [World.cell?, hk]
      have k5 : (wr.alloc (.cells #[.string ⟨#[99, 121, 99, 108, 101, 115]⟩, .func (.func 85) #[] #[]] 109)).cell? ⟨w.heap.size, 5, none⟩ = some (.int .i64 c.le) := by simp [World.cell?, hk]
      have k6 : (wr.alloc (.cells #[.string ⟨#[99, 121, 99, 108, 101, 115]⟩, .func (.func 85) #[] #[]] 109)).cell? ⟨w.heap.size, 6, none⟩ = some (.int .i64 c.tr) := by simp [World.cell?, hk]
      have k7 : (wr.alloc (.cells #[.string ⟨#[99, 121, 99, 108, 101, 115]⟩, .func (.func 85) #[] #[]] 109)).cell? ⟨w.heap.size, 7, none⟩ = some (.int .i64 c.bi) := by simp [World.cell?, hk]
      have HX := Lib.hid (chk3 c (wr.alloc (.cells #[.string ⟨#[99, 121, 99, 108, 101, 115]⟩, .func (.func 85) #[] #[]] 109)) (HA.out.below ((Below.refl _ _).alloc (Nat.le_refl _) _)))
      have HB2 : Hid (Below w.heap.size w (wr.alloc (.cells #[.string ⟨#[99, 121, 99, 108, 101, 115]⟩, .func (.func 85) #[] #[]] 109))) := HB.out.alloc HB.out.size _
      have HC2 := Lib.hid hk
      have HT2 := Lib.hid (keepA HT.out (.cells #[.string ⟨#[99, 121, 99, 108, 101, 115]⟩, .func (.func 85) #[] #[]] 109))
      clear hk
      cases hm : c.b3 with
      | true =>
        rw [hm] at HX
        have HM := Lib.hid hm
        clear hm
        go_wp2_with fail
        refine HX.out.mono ?_
        rintro e w2 ⟨rfl, h2⟩
        have HB3 := Lib.hid (HB2.out.trans (h2.mono HB2.out.size))
        have HC3 := Lib.hid (keepB HC2.out h2)
        have HT3 := Lib.hid (keepB HT2.out h2)
        clear h2 HX t0 t1 k0 k1 k2 k3 k4 k5 k6 k7 HB2 HC2 HT2 HC HT HB
        go_wp2_with fail
        go_roundw
        case rel => exact ⟨3, by decide, by first | rfl | go_num, fun k hk => by
          by_cases hkj : k = 2
          · rw [hkj]; exact HM.out
          · exact HU.out k (by omega), HB3.out, HC3.out, HT3.out⟩
        case measure => simp [intOf]
      | false =>
        rw [hm] at HX
        have HM := Lib.hid hm
        clear hm
        have HE : Hid (c.word = ⟨#[99, 121, 99, 108, 101, 115]⟩) := by
          show c.word = _
          have hm := HM.out
          have e0 : c.b1 = true := HU.out 0 (by decide)
          have e1 : c.b2 = true := HU.out 1 (by decide)
          unfold CF.word
          simp [e0, e1, hm]
        go_wp2_with fail
        refine HX.out.mono ?_
        rintro e w2 ⟨rfl, h2⟩
        have HB3 := Lib.hid (HB2.out.trans (h2.mono HB2.out.size))
        have hh := keepB (heap_alloc_new wr (.cells #[.string ⟨#[99, 121, 99, 108, 101, 115]⟩, .func (.func 85) #[] #[]] 109)) h2
        have v0 : w2.cell? ⟨wr.heap.size, 0, none⟩ = some (.string ⟨#[99, 121, 99, 108, 101, 115]⟩) := by simp [World.cell?, hh]
        clear h2 hh HX t0 t1 k0 k1 k2 k3 k4 k5 k6 k7 HB2 HC2 HT2 HC HT HB
        go_wp2_with fail
        go_ret
        exact ⟨by rw [HE.out]; rfl, HB3.out⟩
    · have t0 : wr.cell? ⟨w.heap.size + 1, 6, none⟩ = some (.string ⟨#[108, 105, 110, 101]⟩) := by simp [World.cell?, HT.out]
      have t1 : wr.cell? ⟨w.heap.size + 1, 7, none⟩ = some (.func (.func 87) #[] #[]) := by simp [World.cell?, HT.out]
      have hk := keepA HC.out (.cells #[.string ⟨#[108, 105, 110, 101]⟩, .func (.func 87) #[] #[]] 109)
      have k0 : (wr.alloc (.cells #[.string ⟨#[108, 105, 110, 101]⟩, .func (.func 87) #[] #[]] 109)).cell? ⟨w.heap.size, 0, none⟩ = some (.slice c.am c.nm c.cm) := by simp [World.cell?, hk]
      have k1 : (wr.alloc (.cells #[.string ⟨#[108, 105, 110, 101]⟩, .func (.func 87) #[] #[]] 109)).cell? ⟨w.heap.size, 1, none⟩ = some (.slice c.au c.ns c.cs) := by simp [World.cell?, hk]
      have k2 : (wr.alloc (.cells #[.string ⟨#[108, 105, 110, 101]⟩, .func (.func 87) #[] #[]] 109)).cell? ⟨w.heap.size, 2, none⟩ = some (.slice c.ac c.nc c.cc) := by simp [World.cell?, hk]
      have k3 : (wr.alloc (.cells #[.string ⟨#[108, 105, 110, 101]⟩, .func (.func 87) #[] #[]] 109)).cell? ⟨w.heap.size, 3, none⟩ = some (.int .i64 c.li) := by simp [World.cell?, hk]
      have k4 : (wr.alloc (.cells #[.string ⟨#[108, 105, 110, 101]⟩, .func (.func 87) #[] #[]] 109)).cell? ⟨w.heap.size, 4, none⟩ = some (.int .i64 c.ca) := by simp [World.cell?, hk]
      have k5 : (wr.alloc (.cells #[.string ⟨#[108, 105, 110, 101]⟩, .func (.func 87) #[] #[]] 109)).cell? ⟨w.heap.size, 5, none⟩ = some (.int .i64 c.le) := by simp [World.cell?, hk]
      have k6 : (wr.alloc (.cells #[.string ⟨#[108, 105, 110, 101]⟩, .func (.func 87) #[] #[]] 109)).cell? ⟨w.heap.size, 6, none⟩ = some (.int .i64 c.tr) := by simp [World.cell?, hk]
      have k7 : (wr.alloc (.cells #[.string ⟨#[108, 105, 110, 101]⟩, .func (.func 87) #[] #[]] 109)).cell? ⟨w.heap.size, 7, none⟩ = some (.int .i64 c.bi) := by simp [World.cell?, hk]
      have HX := Lib.hid (chk4 c (wr.alloc (.cells #[.string ⟨#[108, 105, 110, 101]⟩, .func (.func 87) #[] #[]] 109)) (HA.out.below ((Below.refl _ _).alloc (Nat.le_refl _) _)))
      have HB2 : Hid (Below w.heap.size w (wr.alloc (.cells #[.string ⟨#[108, 105, 110, 101]⟩, .func (.func 87) #[] #[]] 109))) := HB.out.alloc HB.out.size _
      have HC2 := Lib.hid hk
      have HT2 := Lib.hid (keepA HT.out (.cells #[.string ⟨#[108, 105, 110, 101]⟩, .func (.func 87) #[] #[]] 109))
      clear hk
      cases hm : c.b4 with
      | true =>
        rw [hm] at HX
        have HM := Lib.hid hm
        clear hm
        go_wp2_with fail
        refine HX.out.mono ?_
        rintro e w2 ⟨rfl, h2⟩
        have HB3 := Lib.hid (HB2.out.trans (h2.mono HB2.out.size))
        have HC3 := Lib.hid (keepB HC2.out h2)
        have HT3 := Lib.hid (keepB HT2.out h2)
        clear h2 HX t0 t1 k0 k1 k2 k3 k4 k5 k6 k7 HB2 HC2 HT2 HC HT HB
        go_wp2_with fail
        go_roundw
        case rel => exact ⟨4, by decide, by first | rfl | go_num, fun k hk => by
          by_cases hkj : k = 3
          · rw [hkj]; exact HM.out
          · exact HU.out k (by omega), HB3.out, HC3.out, HT3.out⟩
        case measure => simp [intOf]
      | false =>
        rw [hm] at HX
        have HM := Lib.hid hm
        clear hm
        have HE : Hid (c.word = ⟨#[108, 105, 110, 101]⟩) := by
          show c.word = _
          have hm := HM.out
          have e0 : c.b1 = true := HU.out 0 (by decide)
          have e1 : c.b2 = true := HU.out 1 (by decide)
          have e2 : c.b3 = true := HU.out 2 (by decide)
          unfold CF.word
          simp [e0, e1, e2, hm]
        go_wp2_with fail
        refine HX.out.mono ?_
        rintro e w2 ⟨rfl, h2⟩
        have HB3 := Lib.hid (HB2.out.trans (h2.mono HB2.out.size))
        have hh := keepB (heap_alloc_new wr (.cells #[.string ⟨#[108, 105, 110, 101]⟩, .func (.func 87) #[] #[]] 109)) h2
        have v0 : w2.cell? ⟨wr.heap.size, 0, none⟩ = some (.string ⟨#[108, 105, 110, 101]⟩) := by simp [World.cell?, hh]
        clear h2 hh HX t0 t1 k0 k1 k2 k3 k4 k5 k6 k7 HB2 HC2 HT2 HC HT HB
        go_wp2_with fail
        go_ret
        exact ⟨by rw [HE.out]; rfl, HB3.out⟩
    · have t0 : wr.cell? ⟨w.heap.size + 1, 8, none⟩ = some (.string ⟨#[99, 97, 112, 105, 116, 97, 108]⟩) := by simp [World.cell?, HT.out]
      have t1 : wr.cell? ⟨w.heap.size + 1, 9, none⟩ = some (.func (.func 89) #[] #[]) := by simp [World.cell?, HT.out]
      have hk := keepA HC.out (.cells #[.string ⟨#[99, 97, 112, 105, 116, 97, 108]⟩, .func (.func 89) #[] #[]] 109)
      have k0 : (wr.alloc (.cells #[.string ⟨#[99, 97, 112, 105, 116, 97, 108]⟩, .func (.func 89) #[] #[]] 109)).cell? ⟨w.heap.size, 0, none⟩ = some (.slice c.am c.nm c.cm) := by simp [World.cell?, hk]
      have k1 : (wr.alloc (.cells #[.string ⟨#[99, 97, 112, 105, 116, 97, 108]⟩, .func (.func 89) #[] #[]] 109)).cell? ⟨w.heap.size, 1, none⟩ = some (.slice c.au c.ns c.cs) := by simp [World.cell?, hk]
      have k2 : (wr.alloc (.cells #[.string ⟨#[99, 97, 112, 105, 116, 97, 108]⟩, .func (.func 89) #[] #[]] 109)).cell? ⟨w.heap.size, 2, none⟩ = some (.slice c.ac c.nc c.cc) := by simp [World.cell?, hk]
      have k3 : (wr.alloc (.cells #[.string ⟨#[99, 97, 112, 105, 116, 97, 108]⟩, .func (.func 89) #[] #[]] 109)).cell? ⟨w.heap.size, 3, none⟩ = some (.int .i64 c.li) := by simp [World.cell?, hk]
      have k4 : (wr.alloc (.cells #[.string ⟨#[99, 97, 112, 105, 116, 97, 108]⟩, .func (.func 89) #[] #[]] 109)).cell? ⟨w.heap.size, 4, none⟩ = some (.int .i64 c.ca) := by simp [World.cell?, hk]
      have k5 : (wr.alloc (.cells #[.string ⟨#[99, 97, 112, 105, 116, 97, 108]⟩, .func (.func 89) #[] #[]] 109)).cell? ⟨w.heap.size, 5, none⟩ = some (.int .i64 c.le) := by simp [World.cell?, hk]
      have k6 : (wr.alloc (.cells #[.string ⟨#[99, 97, 112, 105, 116, 97, 108]⟩, .func (.func 89) #[] #[]] 109)).cell? ⟨w.heap.size, 6, none⟩ = some (.int .i64 c.tr) := by simp [World.cell?, hk]
      have k7 : (wr.alloc (.cells #[.string ⟨#[99, 97, 112, 105, 116, 97, 108]⟩, .func (.func 89) #[] #[]] 109)).cell? ⟨w.heap.size, 7, none⟩ = some (.int .i64 c.bi) := by simp [World.cell?, hk]
      have HX := Lib.hid (chk5 c (wr.alloc (.cells #[.string ⟨#[99, 97, 112, 105, 116, 97, 108]⟩, .func (.func 89) #[] #[]] 109)) (HA.out.below ((Below.refl _ _).alloc (Nat.le_refl _) _)))
      have HB2 : Hid (Below w.heap.size w (wr.alloc (.cells #[.string ⟨#[99, 97, 112, 105, 116, 97, 108]⟩, .func (.func 89) #[] #[]] 109))) := HB.out.alloc HB.out.size _
      have HC2 := Lib.hid hk
      have HT2 := Lib.hid (keepA HT.out (.cells #[.string ⟨#[99, 97, 112, 105, 116, 97, 108]⟩, .func (.func 89) #[] #[]] 109))
      clear hk
      cases hm : c.b5 with
      | true =>
        rw [hm] at HX
        have HM := Lib.hid hm
        clear hm
        go_wp2_with fail
        refine HX.out.mono ?_
        rintro e w2 ⟨rfl, h2⟩
        have HB3 := Lib.hid (HB2.out.trans (h2.mono HB2.out.size))
        have HC3 := Lib.hid (keepB HC2.out h2)
        have HT3 := Lib.hid (keepB HT2.out h2)
        clear h2 HX t0 t1 k0 k1 k2 k3 k4 k5 k6 k7 HB2 HC2 HT2 HC HT HB
        go_wp2_with fail
        go_roundw
        case rel => exact ⟨5, by decide, by first | rfl | go_num, fun k hk => by
          by_cases hkj : k = 4
          · rw [hkj]; exact HM.out
          · exact HU.out k (by omega), HB3.out, HC3.out, HT3.out⟩
        case measure => simp [intOf]
      | false =>
        rw [hm] at HX
        have HM := Lib.hid hm
        clear hm
        have HE : Hid (c.word = ⟨#[99, 97, 112, 105, 116, 97, 108]⟩) := by
          show c.word = _
          have hm := HM.out
          have e0 : c.b1 = true := HU.out 0 (by decide)
          have e1 : c.b2 = true := HU.out 1 (by decide)
          have e2 : c.b3 = true := HU.out 2 (by decide)
          have e3 : c.b4 = true := HU.out 3 (by decide)
          unfold CF.word
          simp [e0, e1, e2, e3, hm]
        go_wp2_with fail
        refine HX.out.mono ?_
        rintro e w2 ⟨rfl, h2⟩
        have HB3 := Lib.hid (HB2.out.trans (h2.mono HB2.out.size))
        have hh := keepB (heap_alloc_new wr (.cells #[.string ⟨#[99, 97, 112, 105, 116, 97, 108]⟩, .func (.func 89) #[] #[]] 109)) h2
        have v0 : w2.cell? ⟨wr.heap.size, 0, none⟩ = some (.string ⟨#[99, 97, 112, 105, 116, 97, 108]⟩) := by simp [World.cell?, hh]
        clear h2 hh HX t0 t1 k0 k1 k2 k3 k4 k5 k6 k7 HB2 HC2 HT2 HC HT HB
        go_wp2_with fail
        go_ret
        exact ⟨by rw [HE.out]; rfl, HB3.out⟩
    · have t0 : wr.cell? ⟨w.heap.size + 1, 10, none⟩ = some (.string ⟨#[108, 101, 97, 100]⟩) := by simp [World.cell?, HT.out]
      have t1 : wr.cell? ⟨w.heap.size + 1, 11, none⟩ = some (.func (.func 90) #[] #[]) := by simp [World.cell?, HT.out]
      have hk := keepA HC.out (.cells #[.string ⟨#[108, 101, 97, 100]⟩, .func (.func 90) #[] #[]] 109)
      have k0 : (wr.alloc (.cells #[.string ⟨#[108, 101, 97, 100]⟩, .func (.func 90) #[] #[]] 109)).cell? ⟨w.heap.size, 0, none⟩ = some (.slice c.am c.nm c.cm) := by simp [World.cell?, hk]
      have k1 : (wr.alloc (.cells #[.string ⟨#[108, 101, 97, 100]⟩, .func (.func 90) #[] #[]] 109)).cell? ⟨w.heap.size, 1, none⟩ = some (.slice c.au c.ns c.cs) := by simp [World.cell?, hk]
      have k2 : (wr.alloc (.cells #[.string ⟨#[108, 101, 97, 100]⟩, .func (.func 90) #[] #[]] 109)).cell? ⟨w.heap.size, 2, none⟩ = some (.slice c.ac c.nc c.cc) := by simp [World.cell?, hk]
      have k3 : (wr.alloc (.cells #[.string ⟨#[108, 101, 97, 100]⟩, .func (.func 90) #[] #[]] 109)).cell? ⟨w.heap.size, 3, none⟩ = some (.int .i64 c.li) := by simp [World.cell?, hk]
      have k4 : (wr.alloc (.cells #[.string ⟨#[108, 101, 97, 100]⟩, .func (.func 90) #[] #[]] 109)).cell? ⟨w.heap.size, 4, none⟩ = some (.int .i64 c.ca) := by simp [World.cell?, hk]
      have k5 : (wr.alloc (.cells #[.string ⟨#[108, 101, 97, 100]⟩, .func (.func 90) #[] #[]] 109)).cell? ⟨w.heap.size, 5, none⟩ = some (.int .i64 c.le) := by simp [World.cell?, hk]
      have k6 : (wr.alloc (.cells #[.string ⟨#[108, 101, 97, 100]⟩, .func (.func 90) #[] #[]] 109)).cell? ⟨w.heap.size, 6, none⟩ = some (.int .i64 c.tr) := by simp [World.cell?, hk]
      have k7 : (wr.alloc (.cells #[.string ⟨#[108, 101, 97, 100]⟩, .func (.func 90) #[] #[]] 109)).cell? ⟨w.heap.size, 7, none⟩ = some (.int .i64 c.bi) := by simp [World.cell?, hk]
      have HX := Lib.hid (chk6 c (wr.alloc (.cells #[.string ⟨#[108, 101, 97, 100]⟩, .func (.func 90) #[] #[]] 109)) (HA.out.below ((Below.refl _ _).alloc (Nat.le_refl _) _)))
      have HB2 : Hid (Below w.heap.size w (wr.alloc (.cells #[.string ⟨#[108, 101, 97, 100]⟩, .func (.func 90) #[] #[]] 109))) := HB.out.alloc HB.out.size _
      have HC2 := Lib.hid hk
      have HT2 := Lib.hid (keepA HT.out (.cells #[.string ⟨#[108, 101, 97, 100]⟩, .func (.func 90) #[] #[]] 109))
      clear hk
      cases hm : c.b6 with
      | true =>
        rw [hm] at HX
        have HM := Lib.hid hm
        clear hm
        go_wp2_with fail
        refine HX.out.mono ?_
        rintro e w2 ⟨rfl, h2⟩
        have HB3 := Lib.hid (HB2.out.trans (h2.mono HB2.out.size))
        have HC3 := Lib.hid (keepB HC2.out h2)
        have HT3 := Lib.hid (keepB HT2.out h2)
        clear h2 HX t0 t1 k0 k1 k2 k3 k4 k5 k6 k7 HB2 HC2 HT2 HC HT HB
        go_wp2_with fail
        go_roundw
        case rel => exact ⟨6, by decide, by first | rfl | go_num, fun k hk => by
          by_cases hkj : k = 5
          · rw [hkj]; exact HM.out
          · exact HU.out k (by omega), HB3.out, HC3.out, HT3.out⟩
        case measure => simp [intOf]
      | false =>
        rw [hm] at HX
        have HM := Lib.hid hm
        clear hm
        have HE : Hid (c.word = ⟨#[108, 101, 97, 100]⟩) := by
          show c.word = _
          have hm := HM.out
          have e0 : c.b1 = true := HU.out 0 (by decide)
          have e1 : c.b2 = true := HU.out 1 (by decide)
          have e2 : c.b3 = true := HU.out 2 (by decide)
          have e3 : c.b4 = true := HU.out 3 (by decide)
          have e4 : c.b5 = true := HU.out 4 (by decide)
          unfold CF.word
          simp [e0, e1, e2, e3, e4, hm]
        go_wp2_with fail
        refine HX.out.mono ?_
        rintro e w2 ⟨rfl, h2⟩
        have HB3 := Lib.hid (HB2.out.trans (h2.mono HB2.out.size))
        have hh := keepB (heap_alloc_new wr (.cells #[.string ⟨#[108, 101, 97, 100]⟩, .func (.func 90) #[] #[]] 109)) h2
        have v0 : w2.cell? ⟨wr.heap.size, 0, none⟩ = some (.string ⟨#[108, 101, 97, 100]⟩) := by simp [World.cell?, hh]
        clear h2 hh HX t0 t1 k0 k1 k2 k3 k4 k5 k6 k7 HB2 HC2 HT2 HC HT HB
        go_wp2_with fail
        go_ret
        exact ⟨by rw [HE.out]; rfl, HB3.out⟩
    · have t0 : wr.cell? ⟨w.heap.size + 1, 12, none⟩ = some (.string ⟨#[116, 114, 97, 100, 101, 115]⟩) := by simp [World.cell?, HT.out]
      have t1 : wr.cell? ⟨w.heap.size + 1, 13, none⟩ = some (.func (.func 91) #[] #[]) := by simp [World.cell?, HT.out]
      have hk := keepA HC.out (.cells #[.string ⟨#[116, 114, 97, 100, 101, 115]⟩, .func (.func 91) #[] #[]] 109)
      have k0 : (wr.alloc (.cells #[.string ⟨#[116, 114, 97, 100, 101, 115]⟩, .func (.func 91) #[] #[]] 109)).cell? ⟨w.heap.size, 0, none⟩ = some (.slice c.am c.nm c.cm) := by simp [World.cell?, hk]
      have k1 : (wr.alloc (.cells #[.string ⟨#[116, 114, 97, 100, 101, 115]⟩, .func (.func 91) #[] #[]] 109)).cell? ⟨w.heap.size, 1, none⟩ = some (.slice c.au c.ns c.cs) := by simp [World.cell?, hk]
      have k2 : (wr.alloc (.cells #[.string ⟨#[116, 114, 97, 100, 101, 115]⟩, .func (.func 91) #[] #[]] 109)).cell? ⟨w.heap.size, 2, none⟩ = some (.slice c.ac c.nc c.cc) := by simp [World.cell?, hk]
      have k3 : (wr.alloc (.cells #[.string ⟨#[116, 114, 97, 100, 101, 115]⟩, .func (.func 91) #[] #[]] 109)).cell? ⟨w.heap.size, 3, none⟩ = some (.int .i64 c.li) := by simp [World.cell?, hk]
      have k4 : (wr.alloc (.cells #[.string ⟨#[116, 114, 97, 100, 101, 115]⟩, .func (.func 91) #[] #[]] 109)).cell? ⟨w.heap.size, 4, none⟩ = some (.int .i64 c.ca) := by simp [World.cell?, hk]
      have k5 : (wr.alloc (.cells #[.string ⟨#[116, 114, 97, 100, 101, 115]⟩, .func (.func 91) #[] #[]] 109)).cell? ⟨w.heap.size, 5, none⟩ = some (.int .i64 c.le) := by simp [World.cell?, hk]
      have k6 : (wr.alloc (.cells #[.string ⟨#[116, 114, 97, 100, 101, 115]⟩, .func (.func 91) #[] #[]] 109)).cell? ⟨w.heap.size, 6, none⟩ = some (.int .i64 c.tr) := by simp [World.cell?, hk]
      have k7 : (wr.alloc (.cells #[.string ⟨#[116, 114, 97, 100, 101, 115]⟩, .func (.func 91) #[] #[]] 109)).cell? ⟨w.heap.size, 7, none⟩ = some (.int .i64 c.bi) := by simp [World.cell?, hk]
      have HX := Lib.hid (chk7 c (wr.alloc (.cells #[.string ⟨#[116, 114, 97, 100, 101, 115]⟩, .func (.func 91) #[] #[]] 109)) (HA.out.below ((Below.refl _ _).alloc (Nat.le_refl _) _)))
      have HB2 : Hid (Below w.heap.size w (wr.alloc (.cells #[.string ⟨#[116, 114, 97, 100, 101, 115]⟩, .func (.func 91) #[] #[]] 109))) := HB.out.alloc HB.out.size _
      have HC2 := Lib.hid hk
      have HT2 := Lib.hid (keepA HT.out (.cells #[.string ⟨#[116, 114, 97, 100, 101, 115]⟩, .func (.func 91) #[] #[]] 109))
      clear hk
      cases hm : c.b7 with
      | true =>
        rw [hm] at HX
        have HM := Lib.hid hm
        clear hm
        go_wp2_with fail
        refine HX.out.mono ?_
        rintro e w2 ⟨rfl, h2⟩
        have HB3 := Lib.hid (HB2.out.trans (h2.mono HB2.out.size))
        have HC3 := Lib.hid (keepB HC2.out h2)
        have HT3 := Lib.hid (keepB HT2.out h2)
        clear h2 HX t0 t1 k0 k1 k2 k3 k4 k5 k6 k7 HB2 HC2 HT2 HC HT HB
        go_wp2_with fail
        go_roundw
        case rel => exact ⟨7, by decide, by first | rfl | go_num, fun k hk => by
          by_cases hkj : k = 6
          · rw [hkj]; exact HM.out
          · exact HU.out k (by omega), HB3.out, HC3.out, HT3.out⟩
        case measure => simp [intOf]
      | false =>
        rw [hm] at HX
        have HM := Lib.hid hm
        clear hm
        have HE : Hid (c.word = ⟨#[116, 114, 97, 100, 101, 115]⟩) := by
          show c.word = _
          have hm := HM.out
          have e0 : c.b1 = true := HU.out 0 (by decide)
          have e1 : c.b2 = true := HU.out 1 (by decide)
          have e2 : c.b3 = true := HU.out 2 (by decide)
          have e3 : c.b4 = true := HU.out 3 (by decide)
          have e4 : c.b5 = true := HU.out 4 (by decide)
          have e5 : c.b6 = true := HU.out 5 (by decide)
          unfold CF.word
          simp [e0, e1, e2, e3, e4, e5, hm]
        go_wp2_with fail
        refine HX.out.mono ?_
        rintro e w2 ⟨rfl, h2⟩
        have HB3 := Lib.hid (HB2.out.trans (h2.mono HB2.out.size))
        have hh := keepB (heap_alloc_new wr (.cells #[.string ⟨#[116, 114, 97, 100, 101, 115]⟩, .func (.func 91) #[] #[]] 109)) h2
        have v0 : w2.cell? ⟨wr.heap.size, 0, none⟩ = some (.string ⟨#[116, 114, 97, 100, 101, 115]⟩) := by simp [World.cell?, hh]
        clear h2 hh HX t0 t1 k0 k1 k2 k3 k4 k5 k6 k7 HB2 HC2 HT2 HC HT HB
        go_wp2_with fail
        go_ret
        exact ⟨by rw [HE.out]; rfl, HB3.out⟩
    · have t0 : wr.cell? ⟨w.heap.size + 1, 14, none⟩ = some (.string ⟨#[98, 105, 100, 115]⟩) := by simp [World.cell?, HT.out]
      have t1 : wr.cell? ⟨w.heap.size + 1, 15, none⟩ = some (.func (.func 92) #[] #[]) := by simp [World.cell?, HT.out]
      have hk := keepA HC.out (.cells #[.string ⟨#[98, 105, 100, 115]⟩, .func (.func 92) #[] #[]] 109)
      have k0 : (wr.alloc (.cells #[.string ⟨#[98, 105, 100, 115]⟩, .func (.func 92) #[] #[]] 109)).cell? ⟨w.heap.size, 0, none⟩ = some (.slice c.am c.nm c.cm) := by simp [World.cell?, hk]
      have k1 : (wr.alloc (.cells #[.string ⟨#[98, 105, 100, 115]⟩, .func (.func 92) #[] #[]] 109)).cell? ⟨w.heap.size, 1, none⟩ = some (.slice c.au c.ns c.cs) := by simp [World.cell?, hk]
      have k2 : (wr.alloc (.cells #[.string ⟨#[98, 105, 100, 115]⟩, .func (.func 92) #[] #[]] 109)).cell? ⟨w.heap.size, 2, none⟩ = some (.slice c.ac c.nc c.cc) := by simp [World.cell?, hk]
      have k3 : (wr.alloc (.cells #[.string ⟨#[98, 105, 100, 115]⟩, .func (.func 92) #[] #[]] 109)).cell? ⟨w.heap.size, 3, none⟩ = some (.int .i64 c.li) := by simp [World.cell?, hk]
      have k4 : (wr.alloc (.cells #[.string ⟨#[98, 105, 100, 115]⟩, .func (.func 92) #[] #[]] 109)).cell? ⟨w.heap.size, 4, none⟩ = some (.int .i64 c.ca) := by simp [World.cell?, hk]
      have k5 : (wr.alloc (.cells #[.string ⟨#[98, 105, 100, 115]⟩, .func (.func 92) #[] #[]] 109)).cell? ⟨w.heap.size, 5, none⟩ = some (.int .i64 c.le) := by simp [World.cell?, hk]
      have k6 : (wr.alloc (.cells #[.string ⟨#[98, 105, 100, 115]⟩, .func (.func 92) #[] #[]] 109)).cell? ⟨w.heap.size, 6, none⟩ = some (.int .i64 c.tr) := by simp [World.cell?, hk]
      have k7 : (wr.alloc (.cells #[.string ⟨#[98, 105, 100, 115]⟩, .func (.func 92) #[] #[]] 109)).cell? ⟨w.heap.size, 7, none⟩ = some (.int .i64 c.bi) := by simp [World.cell?, hk]
      have HX := Lib.hid (chk8 c (wr.alloc (.cells #[.string ⟨#[98, 105, 100, 115]⟩, .func (.func 92) #[] #[]] 109)) (HA.out.below ((Below.refl _ _).alloc (Nat.le_refl _) _)))
      have HB2 : Hid (Below w.heap.size w (wr.alloc (.cells #[.string ⟨#[98, 105, 100, 115]⟩, .func (.func 92) #[] #[]] 109))) := HB.out.alloc HB.out.size _
      have HC2 := Lib.hid hk
      have HT2 := Lib.hid (keepA HT.out (.cells #[.string ⟨#[98, 105, 100, 115]⟩, .func (.func 92) #[] #[]] 109))
      clear hk
      cases hm : c.b8 with
      | true =>
        rw [hm] at HX
        have HM := Lib.hid hm
        clear hm
        go_wp2_with fail
        refine HX.out.mono ?_
        rintro e w2 ⟨rfl, h2⟩
        have HB3 := Lib.hid (HB2.out.trans (h2.mono HB2.out.size))
        have HC3 := Lib.hid (keepB HC2.out h2)
        have HT3 := Lib.hid (keepB HT2.out h2)
        clear h2 HX t0 t1 k0 k1 k2 k3 k4 k5 k6 k7 HB2 HC2 HT2 HC HT HB
        go_wp2_with fail
        go_roundw
        case rel => exact ⟨8, by decide, by first | rfl | go_num, fun k hk => by
          by_cases hkj : k = 7
          · rw [hkj]; exact HM.out
          · exact HU.out k (by omega), HB3.out, HC3.out, HT3.out⟩
        case measure => simp [intOf]
      | false =>
        rw [hm] at HX
        have HM := Lib.hid hm
        clear hm
        have HE : Hid (c.word = ⟨#[98, 105, 100, 115]⟩) := by
          show c.word = _
          have hm := HM.out
          have e0 : c.b1 = true := HU.out 0 (by decide)
          have e1 : c.b2 = true := HU.out 1 (by decide)
          have e2 : c.b3 = true := HU.out 2 (by decide)
          have e3 : c.b4 = true := HU.out 3 (by decide)
          have e4 : c.b5 = true := HU.out 4 (by decide)
          have e5 : c.b6 = true := HU.out 5 (by decide)
          have e6 : c.b7 = true := HU.out 6 (by decide)
          unfold CF.word
          simp [e0, e1, e2, e3, e4, e5, e6, hm]
        go_wp2_with fail
        refine HX.out.mono ?_
        rintro e w2 ⟨rfl, h2⟩
        have HB3 := Lib.hid (HB2.out.trans (h2.mono HB2.out.size))
        have hh := keepB (heap_alloc_new wr (.cells #[.string ⟨#[98, 105, 100, 115]⟩, .func (.func 92) #[] #[]] 109)) h2
        have v0 : w2.cell? ⟨wr.heap.size, 0, none⟩ = some (.string ⟨#[98, 105, 100, 115]⟩) := by simp [World.cell?, hh]
        clear h2 hh HX t0 t1 k0 k1 k2 k3 k4 k5 k6 k7 HB2 HC2 HT2 HC HT HB
        go_wp2_with fail
        go_ret
        exact ⟨by rw [HE.out]; rfl, HB3.out⟩
    · have HE : Hid (c.word = ⟨#[]⟩) := by
        show c.word = _
        have e0 : c.b1 = true := HU.out 0 (by decide)
        have e1 : c.b2 = true := HU.out 1 (by decide)
        have e2 : c.b3 = true := HU.out 2 (by decide)
        have e3 : c.b4 = true := HU.out 3 (by decide)
        have e4 : c.b5 = true := HU.out 4 (by decide)
        have e5 : c.b6 = true := HU.out 5 (by decide)
        have e6 : c.b7 = true := HU.out 6 (by decide)
        have e7 : c.b8 = true := HU.out 7 (by decide)
        unfold CF.word
        simp [e0, e1, e2, e3, e4, e5, e6, e7]
      clear hi
      go_wp2_with fail
      go_ret
      exact ⟨by rw [HE.out]; rfl, HB.out⟩
end Go.Proofs.Ythmbpoldjddheaa
