/- CodecSome, walked. -/
import Derived.Test.YtbpaongnehgodaaCoSomeR
import Derived.Test.YtbpaongnehgodaaCoSame
import Derived.Test.YtbpaongnehgodaaCoSomeM
namespace Go.Proofs.Ytbpaongnehgodaa
open Go.ChangeShapes Go.WideShapes Go.ChangeAt Go.RowKit
theorem csomes_long (s : ByteArray) (hs : s.size ≤ 9223372036854775807) (hl : 300 < s.size) (w : World) :
    Calls Try.prog 6 #[.string s] w (Ret (.bool true) w) := by
  have d1 : decide (300 < (s.size : Int)) = true := by simp; omega
  have d2 := decide_eq_true hl
  have HA := Lib.hid (awake11_any w)
  clear hl hs
  go_enter Try.func6, Try.ntmps6
  go_wp2_with fail
  refine HA.out.mono ?_
  rintro e w1 ⟨rfl, h1⟩
  go_wp2
  go_ret
  exact ⟨rfl, h1⟩
theorem zeroC_in : zeroC.In := ⟨by decide, by decide, by decide, by decide, by decide, by decide, by decide⟩
theorem atC_in {l : List Cm} (h : ∀ c, c ∈ l → c.In) : ∀ i, (atC l i).In := fun i => by
  show (l.getD i zeroC).In
  rw [List.getD_eq_getElem?_getD]
  cases he : l[i]? with
  | none => exact zeroC_in
  | some c => exact h c (List.mem_of_getElem? he)
theorem atC_map (l : List Cm) : (List.range l.length).map (atC l) = l := by
  apply List.ext_getElem?
  intro i
  by_cases hi : i < l.length
  · simp [hi]
  · simp [hi]
theorem atC_up {l : List Cm} (h : ∀ c, c ∈ l → rightV c = true) : upR (atC l) l.length := fun i hi => by
  show rightV (l.getD i zeroC) = true
  rw [List.getD_eq_getElem?_getD, List.getElem?_eq_getElem hi]
  exact h _ (List.getElem_mem hi)
set_option maxHeartbeats 4000000 in
theorem csomes_any (s : ByteArray) (hs : s.size ≤ 300) (w : World) :
    Calls Try.prog 6 #[.string s] w (Ret (.bool true) w) := by
  have hs2 : (s.size : Int) ≤ 300 := by omega
  have d1 : decide (300 < (s.size : Int)) = false := by simp; omega
  have d2 : decide (300 < s.size) = false := by simp; omega
  have HA := Lib.hid awake11_any
  have HG := Lib.hid (csome_any s (by omega))
  have HR := Lib.hid (rsome_any s (by omega))
  have HSM := Lib.hid csame_any
  cases hA : someA s with
  | inl E =>
    have hE := someA_err hA
    have d3 : (E == 0) = false := by simp [hE]
    have d4 : (E != 0) = true := by simp [hE]
    have HIE := Lib.hid hA
    clear hs hA hE
    go_enter Try.func6, Try.ntmps6
    go_wp2_with fail
    refine (HG.out _).mono ?_
    rintro e w1 ⟨b1, ⟨x, hx, rfl⟩ | ⟨l, ao, cap, hx, _⟩⟩
    · rw [HIE.out] at hx
      injection hx with hx
      subst hx
      have B1 := Lib.hid b1
      clear b1
      go_wp2_with fail
      refine (HR.out _).mono ?_
      rintro e w2 ⟨b2, ⟨x, hx, rfl⟩ | ⟨l, ao, cap, hx, _⟩⟩
      · rw [HIE.out] at hx
        injection hx with hx
        subst hx
        have B2 : Hid (Below w.heap.size w w2) := B1.out.trans (b2.mono B1.out.size)
        clear b2
        go_wp2_with fail
        refine (HSM.out (fun _ => zeroC) none none 0 0 0 (by omega) _ (fun h => absurd h (Nat.lt_irrefl 0)) (fun h => absurd h (Nat.lt_irrefl 0))).mono ?_
        rintro e w3 ⟨rfl, b3⟩
        have B3 : Hid (Below w.heap.size w w3) := B2.out.trans (b3.mono B2.out.size)
        clear b3
        go_wp2_with fail
        refine (HA.out _).mono ?_
        rintro e w4 ⟨rfl, b4⟩
        have B4 : Hid (Below w.heap.size w w4) := B3.out.trans (b4.mono B3.out.size)
        clear b4
        go_wp2_with fail
        go_ret
        exact ⟨rfl, B4.out⟩
      · rw [HIE.out] at hx
        cases hx
    · rw [HIE.out] at hx
      cases hx
  | inr l =>
    obtain ⟨hl, hall, hsb⟩ := some_back hA
    have hl2 : (l.length : Int) ≤ 1024 := by omega
    have HIE := Lib.hid hA
    have HALL := Lib.hid (fun ao cap W (h : CmsAt W ao l.length (atC l)) => call_any (atC l) (atC_in (fun c hc => (hall c hc).1)) ao l.length cap hl W h)
    have HUP := Lib.hid (atC_up (fun c hc => (hall c hc).2))
    have HTX : Hid (txt (encN (codeN (l.length : Int)) ++ flatB (atC l) l.length) = .string s) := by
      show _ = _
      rw [flatB_list, atC_map]
      unfold txt
      rw [← hsb]
    have HSM2 := Lib.hid (fun ao bo cap cap2 W (h : CmsAt W ao l.length (atC l)) (h2 : CmsAt W bo l.length (atC l)) => csame_any (atC l) ao bo l.length cap cap2 (by omega) W h h2)
    clear hs hA hall hsb HSM hl
    go_enter Try.func6, Try.ntmps6
    go_wp2_with fail
    refine (HG.out _).mono ?_
    rintro e w1 ⟨b1, ⟨x, hx, _⟩ | ⟨l1, ao, cap, hx, rfl, hcm⟩⟩
    · rw [HIE.out] at hx
      cases hx
    · rw [HIE.out] at hx
      injection hx with hx
      subst hx
      have B1 := Lib.hid b1
      have C1 := Lib.hid hcm
      clear b1 hcm
      go_wp2_with fail
      refine (HR.out _).mono ?_
      rintro e w2 ⟨b2, ⟨x, hx, _⟩ | ⟨l2, bo, cap2, hx, rfl, hcm⟩⟩
      · rw [HIE.out] at hx
        cases hx
      · rw [HIE.out] at hx
        injection hx with hx
        subst hx
        have B2 : Hid (Below w.heap.size w w2) := B1.out.trans (b2.mono B1.out.size)
        have C2 := Lib.hid (C1.out.below b2)
        have D2 := Lib.hid hcm
        clear b2 hcm
        go_wp2_with fail
        refine (HSM2.out ao bo cap cap2 _ C2.out D2.out).mono ?_
        rintro e w3 ⟨rfl, b3⟩
        have B3 : Hid (Below w.heap.size w w3) := B2.out.trans (b3.mono B2.out.size)
        have C3 := Lib.hid (C2.out.below b3)
        clear b3
        go_wp2_with fail
        refine (HALL.out ao cap _ C3.out).mono ?_
        rintro e w4 ⟨x, hx, rfl, b4⟩
        have hx2 := hx.1 HUP.out
        rw [HTX.out] at hx2
        subst hx2
        have B4 : Hid (Below w.heap.size w w4) := B3.out.trans (b4.mono B3.out.size)
        clear b4 hx
        go_wp2_with fail
        refine (HA.out _).mono ?_
        rintro e w5 ⟨rfl, b5⟩
        have B5 : Hid (Below w.heap.size w w5) := B4.out.trans (b5.mono B4.out.size)
        clear b5
        go_wp2_with fail
        go_ret
        exact ⟨rfl, B5.out⟩
end Go.Proofs.Ytbpaongnehgodaa
