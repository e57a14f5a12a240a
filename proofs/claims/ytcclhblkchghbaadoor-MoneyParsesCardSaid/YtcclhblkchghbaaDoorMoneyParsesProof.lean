/- MoneyParses holds for every input: which texts are amounts', and of which one, as the document has it (texts of up to 100 bytes). No conditions but that the library's tables and errors are as its initialisers lay them, which the card ties to the program's text. -/
import Derived.Test.YtcclhblkchghbaaDoorMoneyVars
import Derived.Test.YtcclhblkchghbaaDoorMoneyParsesMath
import Derived.Test.YtcclhblkchghbaaDoorMoneyAwake
namespace Go.Proofs.YtcclhblkchghbaaDoor.moneyParses
open Go.ChangeShapes Go.WideShapes Go.ChangeAt Go.WideElems Go.ChangeMaps Go.RowKit Go.Joins
set_option linter.unusedVariables false
set_option maxHeartbeats 1000000 in
theorem parses_long (s : ByteArray) (hs : 100 < s.size) (hm : s.size ≤ 9223372036854775807) (w : World) (hV : Vars w) :
    Calls Tryd.prog 7 #[.string s] w (Ret (.bool true) w) := by
  have HX := Lib.hid (awake_any w hV.tab)
  have h1 : (100 : Int) < s.size := by omega
  clear hV hs hm
  go_enter Tryd.func7, Tryd.ntmps7
  go_wp2_with fail
  refine HX.out.mono ?_
  rintro e w1 ⟨rfl, h1⟩
  go_wp2
  go_ret
  exact ⟨rfl, h1⟩
set_option maxRecDepth 100000 in
set_option maxHeartbeats 1000000 in
theorem parses_yes (s : ByteArray) (hs : s.size ≤ 100) (v : Int) (hv : -9223372036854775808 ≤ v ∧ v ≤ 9223372036854775807) (he : s.data.toList = textL v) (w : World) (hV : Vars w) :
    Calls Tryd.prog 7 #[.string s] w (Ret (.bool true) w) := by
  have hp := fun (w : World) h => parse_any s (by omega) w h
  rw [he, parseV_text v hv] at hp
  have HP := Lib.hid hp
  have HR := Lib.hid (refparse_yes v hv s he)
  have HT := Lib.hid (text_any v hv)
  have HX := Lib.hid (fun (w : World) h => awake_any w h)
  have HV := Lib.hid hV
  have hq : (textL v == s.toList) = true := by rw [ByteArray.toList_eq, he]; simp
  have h1 : (s.size : Int) ≤ 100 := by omega
  generalize textL v = t at *
  clear hV hv he hp hs
  go_enter Tryd.func7, Tryd.ntmps7
  go_wp2_with fail
  refine (HP.out _ HV.out).mono ?_
  rintro e w1 ⟨rfl, h1⟩
  have H1 := Lib.hid h1
  clear h1
  go_wp2_with fail
  refine (HR.out _).mono ?_
  rintro e w2 ⟨rfl, h2⟩
  have H2 : Hid (Below w.heap.size w w2) := H1.out.trans (h2.mono H1.out.size)
  clear h2
  go_wp2_with fail
  refine (HX.out _ (HV.out.next H2.out).tab).mono ?_
  rintro e w3 ⟨rfl, h3⟩
  have H3 : Hid (Below w.heap.size w w3) := H2.out.trans (h3.mono H2.out.size)
  clear h3
  go_wp2_with fail
  refine (HT.out _ (HV.out.next H3.out).tab).mono ?_
  rintro e w4 ⟨rfl, h4⟩
  have H4 : Hid (Below w.heap.size w w4) := H3.out.trans (h4.mono H3.out.size)
  clear h4
  unfold txt
  go_wp2
  go_ret
  exact ⟨rfl, H4.out⟩
set_option maxRecDepth 100000 in
set_option maxHeartbeats 1000000 in
theorem parses_no (s : ByteArray) (hs : s.size ≤ 100) (h : ∀ v : Int, -9223372036854775808 ≤ v ∧ v ≤ 9223372036854775807 → textL v ≠ s.data.toList) (w : World) (hV : Vars w) :
    Calls Tryd.prog 7 #[.string s] w (Ret (.bool true) w) := by
  have hp := fun (w : World) h => parse_any s (by omega) w h
  rw [parseV_none _ h] at hp
  have HP := Lib.hid hp
  have hr := refparse_no s hs h
  unfold badV at hr
  have HR := Lib.hid hr
  have HX := Lib.hid (fun (w : World) h => awake_any w h)
  have HV := Lib.hid hV
  have h1 : (s.size : Int) ≤ 100 := by omega
  clear hV h hp hr hs
  go_enter Tryd.func7, Tryd.ntmps7
  go_wp2_with fail
  refine (HP.out _ HV.out).mono ?_
  rintro e w1 ⟨rfl, h1⟩
  have H1 := Lib.hid h1
  clear h1
  go_wp2_with fail
  refine (HR.out _).mono ?_
  rintro e w2 ⟨rfl, h2⟩
  have H2 : Hid (Below w.heap.size w w2) := H1.out.trans (h2.mono H1.out.size)
  clear h2
  go_wp2_with fail
  refine (HX.out _ (HV.out.next H2.out).tab).mono ?_
  rintro e w3 ⟨rfl, h3⟩
  have H3 : Hid (Below w.heap.size w w3) := H2.out.trans (h3.mono H2.out.size)
  clear h3
  go_wp2
  go_ret
  exact ⟨rfl, H3.out⟩
theorem door_met (os : Os) (args : Array Value) : laidMetH Tryd.prog Rows.moneyParsesRow.laid ((World.doorLaid Tryd.prog 62 os).forCall (fun _ _ => 0) ⟨#[], args, []⟩).memory :=
  laidMetH_of_parts3 (fuel := 8) (laidMet_of_run' 8 (by kernel_rfl) (by kernel_rfl)) (by kernel_rfl) (by kernel_rfl)
set_option maxRecDepth 100000 in
theorem lifted (os : Os) (started : os.Started) (H : Type) (enc : TypeId × Value → H) :
    ReturnsInHanded {} Tryd.checked os 7 .any (fun w args => (Rows.moneyParsesSpec.pre enc Tryd.prog Tryd.f7 [] false w args ∧ laidMetH Tryd.prog Rows.moneyParsesRow.laid w) ∧ sizedMet enc Tryd.prog Tryd.f7 (OpenSpec.ofChange Rows.moneyParsesSpec) false w args)
      (Rows.moneyParsesSpec.post enc Tryd.prog Tryd.f7 false true false false) := by
  refine returns_laid_shaped (C := Tryd.checked) (X := fun w _ => laidMetH Tryd.prog Rows.moneyParsesRow.laid w) (fun _ _ _ hh h => h.of_heap hh) own5 started (by kernel_rfl) Tryd.func7
    (ChangeSpec.witness_shaped (enc := enc) (C := Tryd.checked) (os := os) (X := fun w _ => laidMetH Tryd.prog Rows.moneyParsesRow.laid w) false (World.doorLaid Tryd.prog 62 os) #[.string ⟨#[]⟩] 8 rfl (World.shaped_of_RefB (by kernel_rfl) (by kernel_rfl)) (by kernel_rfl) (by kernel_rfl) (by kernel_rfl) (door_met os _)) ?_
  intro W base args ds gs before hval0 hW hL hsh
  have hval : ∀ (j : Nat) t v, Tryd.f7.params[j]? = some t → args[j]? = some v → Value.okWide Tryd.prog W .any base t v := hval0
  have hW' := hW
  obtain ⟨p, q, hA0, hV, rfl, hfz, hnd⟩ := hW
  have hA : DataW.TrodAll enc Tryd.prog W 0 (fun _ => true) true Tryd.f7.params.toList args.toList ds p := hA0
  rw [Tryd.params7] at hA hval
  obtain ⟨v0, vs0, d0, ds0, p0, q0, hargs, rfl, rfl, h0, r0⟩ := trodAll_cons hA
  obtain ⟨rfl, rfl, rfl⟩ := trodAll_nil r0
  obtain rfl : args = #[v0] := by cases args; simp_all
  obtain ⟨rfl, rfl⟩ := trodVars_none hV
  have k0 := h0
  have lt0 : ∀ x ∈ p0, x.block < W.heap.size := by obtain ⟨m, hm⟩ := k0; exact DataW.trod_lt m _ _ _ hm
  obtain ⟨t, rfl, e0, rfl, wt⟩ := open_string Tryd.underlying9 (hval 0 9 v0 rfl rfl) h0
  have hT : Vars W := vars_of_laid hL hsh
  clear hA0 hval0
  have walk : Calls Tryd.prog 7 #[.string t] W (Ret (.bool true) W) := by
    by_cases hlong : 100 < t.size
    · exact parses_long t hlong (by unfold maxLen at wt; omega) W hT
    · by_cases h : ∃ v : Int, (-9223372036854775808 ≤ v ∧ v ≤ 9223372036854775807) ∧ t.data.toList = textL v
      · obtain ⟨v, hv, he⟩ := h
        exact parses_yes t (by omega) v hv he W hT
      · exact parses_no t (by omega) (fun v hv he => h ⟨v, hv, he.symm⟩) W hT
  refine walk.mono fun e W' ⟨he, bel⟩ => ?_
  subst he
  exact ⟨_, rfl, _, _, _, [], _, [], hW', trodAll_mk1 (shut_bool Tryd.underlying4 _), (trodAll_cons_mk (Below.trod laidOut5 (by kernel_rfl) (of_decide_eq_true (by kernel_rfl)) k0 bel lt0) trodAll_mk0), rfl, bel.frame _, fun h => by cases h⟩
theorem over : Rows.MoneyParsesSaid :=
  OpenClaim.holds_of_wide 7 Tryd.f7 rfl rfl rfl rfl rfl rfl rfl ⟨rfl, rfl, rfl, rfl, rfl⟩ rfl rfl rfl rfl rfl (by kernel_rfl) Tryd.func7 (by kernel_rfl)
    (of_decide_eq_true (by kernel_rfl)) (by unfold Func.isWrapper; first | (rw [if_pos (by decide +kernel)]; kernel_rfl) | (rw [if_neg (by decide +kernel)]; exact ⟨rfl, rfl⟩))
    (fun os started H enc _ => lifted os started H enc)
theorem proved : Rows.MoneyParsesCardSaid :=
  Claim7.holds_tied_plain_at .later [] [.data, .data, .data, .sentinel, .sentinel] true Rows.moneyParsesCard.stood.harness true
    over (fun _ h => by cases h) (by kernel_rfl) (fun _ h => by cases h) moneyParses_row_tie rfl ⟨rfl, rfl⟩ (by kernel_rfl) rfl
    (fun f fn hf hfn => by
      obtain rfl : f = 7 := Option.some.inj ((show Tryd.prog.funcNamed "compline/complinelaw01.MoneyParses" = some 7 by kernel_rfl).symm.trans hf) |>.symm
      obtain rfl : fn = Tryd.f7 := (Option.some.inj (Tryd.func7.symm.trans hfn)).symm
      exact ⟨by kernel_rfl, fun j t ht => by
        rw [Tryd.params7] at ht
        have hm : t ∈ [9] := by simpa using Array.mem_of_getElem? ht
        have hall : ([9].all fun u => !Tryd.prog.wantsStandIn u) = true := by kernel_rfl
        exact (show Tryd.prog.wantsStandIn t = false by simpa using List.all_eq_true.1 hall t hm)⟩)
    (by kernel_rfl)
#print axioms proved
end Go.Proofs.YtcclhblkchghbaaDoor.moneyParses
