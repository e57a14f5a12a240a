/- CodecLists, walked. -/
import Derived.Test.YtbpaongnehgodaaCoLaw5
namespace Go.Proofs.Ytbpaongnehgodaa
open Go.ChangeShapes Go.WideShapes Go.ChangeAt Go.RowKit
theorem CmsAt.congr {w : World} {ao : Option Addr} {n : Nat} {f f' : Nat → Cm} (h : CmsAt w ao n f) (e : ∀ i, i < n → f i = f' i) : CmsAt w ao n f' := fun hn => by
  obtain ⟨b, off, e1, hlt, hc⟩ := h hn
  exact ⟨b, off, e1, hlt, fun i hi => by rw [← e i hi]; exact hc i hi⟩
theorem atC_range (f : Nat → Cm) (n : Nat) : ∀ i, i < n → atC ((List.range n).map f) i = f i := fun i hi => by
  show ((List.range n).map f).getD i zeroC = f i
  rw [List.getD_eq_getElem?_getD]
  simp [hi]
theorem makeCm (w : World) : ∃ z, (Instr.makeSlice 34 (.int .i64 1025) (.int .i64 1025)).run Try.prog w = .ok (.slice (some ⟨w.heap.size, 0, none⟩) 1025 1025) (w.alloc (.cells z 23)) := by
  obtain ⟨i, hi, hz, hs, hb⟩ := info_parts infoCm
  have h := run_make (P := Try.prog) w 34 23 i (.agg #[.int .i64 0, .int .i64 0, .int .i64 0, .int .i64 0, .int .i64 0, .int .i64 0, .int .i64 0]) Try.underlying34 hi hz .i64 .i64 1025 1025 (by omega) (by omega) (by rw [hb]; omega) (by omega)
  exact ⟨_, h⟩
theorem lists_many (ao : Option Addr) (n cap : Nat) (long : Bool) (hn : 60 < n) (hn2 : n ≤ 9223372036854775807) (w : World) :
    Calls Try.prog 5 #[.slice ao n cap, .bool long] w (Ret (.bool true) w) := by
  have d1 : decide (60 < (n : Int)) = true := decide_eq_true (by omega)
  have d2 : decide (60 < n) = true := decide_eq_true hn
  have HA := Lib.hid (awake11_any w)
  clear hn hn2
  go_enter Try.func5, Try.ntmps5
  go_wp2_with fail
  refine HA.out.mono ?_
  rintro e w1 ⟨rfl, h1⟩
  go_wp2
  go_ret
  exact ⟨rfl, h1⟩
set_option maxHeartbeats 4000000 in
theorem lists_long (ao : Option Addr) (n cap : Nat) (hn : n ≤ 60) (w : World) :
    Calls Try.prog 5 #[.slice ao n cap, .bool true] w (Ret (.bool true) w) := by
  have hn2 : (n : Int) ≤ 60 := by omega
  have d1 : decide (60 < (n : Int)) = false := decide_eq_false (by omega)
  have d2 : decide (60 < n) = false := decide_eq_false (by omega)
  have HA := Lib.hid awake11_any
  obtain ⟨z, hmk⟩ := makeCm w
  have HC := Lib.hid (fun ao cap W => call_full ao 1025 cap (by decide) (by decide) W)
  have HR := Lib.hid (fun ao cap W => rall_full ao 1025 cap (by decide) (by decide) W)
  clear hn
  go_enter Try.func5, Try.ntmps5
  go_wp2_with fail
  refine (HC.out _ _ _).mono ?_
  rintro e w1 ⟨rfl, b1⟩
  have B1 := Lib.hid (below_of_box b1)
  clear b1
  go_wp2_with fail
  refine (HR.out _ _ _).mono ?_
  rintro e w2 ⟨rfl, b2⟩
  have B2 : Hid (Below w.heap.size w w2) := B1.out.trans (b2.mono B1.out.size)
  clear b2
  go_wp2_with fail
  refine (HA.out _).mono ?_
  rintro e w3 ⟨rfl, b3⟩
  have B3 : Hid (Below w.heap.size w w3) := B2.out.trans (b3.mono B2.out.size)
  clear b3
  go_wp2_with fail
  go_ret
  exact ⟨rfl, B3.out⟩
set_option maxHeartbeats 4000000 in
theorem lists_any (f : Nat → Cm) (hf : ∀ i, (f i).In) (ao : Option Addr) (n cap : Nat) (hn : n ≤ 60) (w : World) (h : CmsAt w ao n f) :
    Calls Try.prog 5 #[.slice ao n cap, .bool false] w (Ret (.bool true) w) := by
  have hn2 : (n : Int) ≤ 60 := by omega
  have d1 : decide (60 < (n : Int)) = false := decide_eq_false (by omega)
  have d2 : decide (60 < n) = false := decide_eq_false (by omega)
  have HA := Lib.hid awake11_any
  have HC := Lib.hid (call_any f hf ao n cap (by omega) w h)
  have HR := Lib.hid (fun W (h : CmsAt W ao n f) => rall_any f hf ao n cap (by omega) W h)
  have HCM := Lib.hid h
  by_cases hu : upR f n
  · have hlen : (encN (codeN (n : Int)) ++ flatB f n).length ≤ 1000000 := by
      have h1 := flatB_len f hf n
      have h2 : (encN (codeN (n : Int))).length ≤ 10 := encN_len (codeN_lt (by omega))
      rw [List.length_append]; omega
    have HS := Lib.hid (fun W => csome_any ⟨(encN (codeN (n : Int)) ++ flatB f n).toArray⟩ hlen W)
    have HIE := Lib.hid (some_enc f n (by omega) hf hu)
    have HU : Hid (∀ x, allA f n x → x = .tuple #[txt (encN (codeN (n : Int)) ++ flatB f n), .int .i64 0]) := fun x hx => hx.1 hu
    have HSM := Lib.hid (fun ao bo cap cap2 W (h : CmsAt W ao n f) (h2 : CmsAt W bo n f) => csame_any f ao bo n cap cap2 (by omega) W h h2)
    have HLL : Hid (((List.range n).map f).length = n) := by show _ = _; simp
    obtain ⟨L, hL⟩ : ∃ L, encN (codeN (n : Int)) ++ flatB f n = L := ⟨_, rfl⟩
    rw [hL] at HS HIE HU
    unfold txt at HU
    have HAT := Lib.hid (atC_range f n)
    clear h hf hn hu hlen hL
    go_enter Try.func5, Try.ntmps5
    go_wp2_with fail
    refine HC.out.mono ?_
    rintro e w1 ⟨x, hx, rfl, b1⟩
    have hx2 := HU.out x hx
    subst hx2
    have B1 := Lib.hid b1
    have C1 := Lib.hid (HCM.out.below b1)
    clear b1 hx
    go_wp2_with fail
    refine (HR.out _ C1.out).mono ?_
    rintro e w2 ⟨x, hx, rfl, b2⟩
    have hx2 := HU.out x hx
    subst hx2
    have B2 : Hid (Below w.heap.size w w2) := B1.out.trans (b2.mono B1.out.size)
    have C2 := Lib.hid (C1.out.below b2)
    clear b2 hx
    go_wp2_with fail
    refine (HS.out _).mono ?_
    rintro e w3 ⟨b3, ⟨x, hx, _⟩ | ⟨l, bo, cap2, hx, rfl, hcm⟩⟩
    · rw [HIE.out] at hx
      cases hx
    · rw [HIE.out] at hx
      injection hx with hx
      have hll : l.length = n := by rw [← hx]; exact HLL.out
      have hcm2 : CmsAt w3 bo n f := by
        rw [hll] at hcm
        exact hcm.congr (fun i hi => by rw [← hx]; exact HAT.out i hi)
      rw [hll]
      have B3 : Hid (Below w.heap.size w w3) := B2.out.trans (b3.mono B2.out.size)
      have C3 := Lib.hid (C2.out.below b3)
      have D3 := Lib.hid hcm2
      clear b3 hcm hcm2 hx hll
      go_wp2_with fail
      refine (HA.out _).mono ?_
      rintro e w4 ⟨rfl, b4⟩
      have B4 : Hid (Below w.heap.size w w4) := B3.out.trans (b4.mono B3.out.size)
      have C4 := Lib.hid (C3.out.below b4)
      have D4 := Lib.hid (D3.out.below b4)
      clear b4
      go_wp2_with fail
      refine (HSM.out bo ao cap2 cap _ D4.out C4.out).mono ?_
      rintro e w5 ⟨rfl, b5⟩
      have B5 : Hid (Below w.heap.size w w5) := B4.out.trans (b5.mono B4.out.size)
      clear b5
      go_wp2_with fail
      go_ret
      exact ⟨rfl, B5.out⟩
  · have HU : Hid (∀ x, allA f n x → x = .tuple #[.string ⟨#[]⟩, .int .i64 3]) := fun x hx => hx.2 hu
    clear h hf hn hu
    go_enter Try.func5, Try.ntmps5
    go_wp2_with fail
    refine HC.out.mono ?_
    rintro e w1 ⟨x, hx, rfl, b1⟩
    have hx2 := HU.out x hx
    subst hx2
    have B1 := Lib.hid b1
    have C1 := Lib.hid (HCM.out.below b1)
    clear b1 hx
    go_wp2_with fail
    refine (HR.out _ C1.out).mono ?_
    rintro e w2 ⟨x, hx, rfl, b2⟩
    have hx2 := HU.out x hx
    subst hx2
    have B2 : Hid (Below w.heap.size w w2) := B1.out.trans (b2.mono B1.out.size)
    clear b2 hx
    go_wp2_with fail
    refine (HA.out _).mono ?_
    rintro e w3 ⟨rfl, b3⟩
    have B3 : Hid (Below w.heap.size w w3) := B2.out.trans (b3.mono B2.out.size)
    clear b3
    go_wp2_with fail
    go_ret
    exact ⟨rfl, B3.out⟩
end Go.Proofs.Ytbpaongnehgodaa
