/- ConfHas: members and securities by their numbers, and a copy that is the same and its own, of any small config. -/
import Derived.Test.YthmbpoldjddheaaCfHasEnd
import Derived.Test.YthmbpoldjddheaaCfView
import Derived.Test.YthmbpoldjddheaaVOwn
namespace Go.Proofs.Ythmbpoldjddheaa.confHas
open Go.ChangeShapes Go.WideShapes Go.ChangeAt Go.WideElems Go.ChangeMaps Go.RowKit Go.Joins
set_option linter.unusedVariables false
set_option maxRecDepth 100000 in
theorem lifted (os : Os) (started : os.Started) (H : Type) (enc : TypeId × Value → H) :
    ReturnsInHanded {} Try.checked os 8 .any (Rows.confHasSpec.pre6 enc Try.prog Try.f8 Rows.confHasRow.domain false) (Rows.confHasSpec.post enc Try.prog Try.f8 false true false false) := by
  refine returnsInHanded_of_change (C := Try.checked) vOwn started (by kernel_rfl) Try.func8
    (ChangeSpec.witness6 (enc := enc) (C := Try.checked) false ⟨#[], #[.agg #[.slice none 0 0, .slice none 0 0, .slice none 0 0, .int .i64 0, .int .i64 0, .int .i64 0, .int .i64 0, .int .i64 0], .int .i64 0], []⟩ 8 (by kernel_rfl) (by kernel_rfl) (by kernel_rfl) (by kernel_rfl)) ?_
  intro W base args ds gs before hval0 hW hcnd _
  have hval : ∀ (j : Nat) t v, Try.f8.params[j]? = some t → args[j]? = some v → Value.okWide Try.prog W .any base t v := hval0
  have hW' := hW
  obtain ⟨p, q, hA0, hV, rfl, hfz, hnd⟩ := hW
  have hA : DataW.TrodAll enc Try.prog W 0 (fun _ => true) true Try.f8.params.toList args.toList ds p := hA0
  rw [Try.params8] at hA hval
  obtain ⟨v0, vs0, d0, ds0, p0, q0, hargs, rfl, rfl, h0, r0⟩ := trodAll_cons hA
  obtain ⟨v1, vs1, d1, ds1, p1, q1, rfl, rfl, rfl, h1, r1⟩ := trodAll_cons r0
  obtain ⟨rfl, rfl, rfl⟩ := trodAll_nil r1
  obtain rfl : args = #[v0, v1] := by cases args; simp_all
  obtain ⟨rfl, rfl⟩ := trodVars_none hV
  have k0 := h0
  have lt0 : ∀ x ∈ p0, x.block < W.heap.size := by obtain ⟨m, hm⟩ := k0; exact DataW.trod_lt m _ _ _ hm
  obtain ⟨cf0, rfl, hb0, ht0⟩ := conf_view (okWide_struct Try.underlying67 (hval 0 67 v0 rfl rfl)) h0
  obtain ⟨a1, rfl, rfl, rfl, w1⟩ := open_int Try.underlying3 (hval 1 3 v1 rfl rfl) h1
  have b1 := bounds_i64 w1
  clear hA0 hval0
  have walk : Calls Try.prog 8 #[.agg #[.slice cf0.am cf0.nm cf0.cm, .slice cf0.au cf0.ns cf0.cs, .slice cf0.ac cf0.nc cf0.cc, .int .i64 cf0.li, .int .i64 cf0.ca, .int .i64 cf0.le, .int .i64 cf0.tr, .int .i64 cf0.bi], .int .i64 a1] W (Ret (.bool true) W) := by
    cases hs : cf0.small with
    | false => exact has_few cf0 a1 hb0 hs W
    | true =>
      have hf : cf0.nm ≤ 20 ∧ cf0.ns ≤ 20 ∧ cf0.nc ≤ 20 := by unfold CF.small at hs; simpa using hs
      have hat : cf0.At W := ⟨ht0.1, ht0.2.1, ht0.2.2, by omega⟩
      exact has_any cf0 a1 W hat hf
  refine walk.mono fun e W' ⟨he, bel⟩ => ?_
  subst he
  exact ⟨_, rfl, _, _, _, [], _, [], hW', trodAll_mk1 (shut_bool Try.underlying4 _), (trodAll_cons_mk (Below.trod vLaidOut (by kernel_rfl) (of_decide_eq_true (by kernel_rfl)) k0 bel lt0) (trodAll_cons_mk (shut_int Try.underlying3 w1) trodAll_mk0)), rfl, bel.frame _, fun h => by cases h⟩
theorem over : Rows.confHasRow.holds Try.pinned (OpenSpec.ofChange Rows.confHasSpec) :=
  OpenClaim.holds_of_wide 8 Try.f8 rfl rfl rfl rfl rfl rfl rfl ⟨rfl, rfl, rfl, rfl, rfl⟩ rfl rfl rfl rfl rfl (by kernel_rfl) Try.func8 (by kernel_rfl)
    (of_decide_eq_true (by kernel_rfl)) (by unfold Func.isWrapper; first | (rw [if_pos (by decide +kernel)]; kernel_rfl) | (rw [if_neg (by decide +kernel)]; exact ⟨rfl, rfl⟩))
    (fun os started H enc _ => lifted os started H enc)
theorem proved : Rows.ConfHasSaid := over
#print axioms proved
end Go.Proofs.Ythmbpoldjddheaa.confHas
