/- RankMerges holds for every input: any two lists put together, and where runs of like keys begin, are the document's (up to 20 keys each, of up to 6 numbers). No conditions. -/
import Derived.Test.YtncbieaobadekaaRankMerges
import Derived.Test.YtncbieaobadekaaViews
namespace Go.Proofs.Ytncbieaobadekaa.rankMerges
open Go.ChangeShapes Go.WideShapes Go.ChangeAt Go.WideElems Go.ChangeMaps Go.RowKit Go.Joins
set_option linter.unusedVariables false
set_option maxRecDepth 100000 in
theorem lifted (os : Os) (started : os.Started) (H : Type) (enc : TypeId × Value → H) :
    ReturnsInHanded {} Try.checked os 12 .any (Rows.rankMergesSpec.pre6 enc Try.prog Try.f12 Rows.rankMergesRow.domain false) (Rows.rankMergesSpec.post enc Try.prog Try.f12 false true false false) := by
  refine returnsInHanded_of_change (C := Try.checked) vOwn started (by kernel_rfl) Try.func12
    (ChangeSpec.witness6 (enc := enc) (C := Try.checked) false ⟨#[], #[.slice none 0 0, .slice none 0 0], []⟩ 8 (by kernel_rfl) (by kernel_rfl) (by kernel_rfl) (by kernel_rfl)) ?_
  intro W base args ds gs before hval0 hW hcnd _
  have hval : ∀ (j : Nat) t v, Try.f12.params[j]? = some t → args[j]? = some v → Value.okWide Try.prog W .any base t v := hval0
  have hW' := hW
  obtain ⟨p, q, hA0, hV, rfl, hfz, hnd⟩ := hW
  have hA : DataW.TrodAll enc Try.prog W 0 (fun _ => true) true Try.f12.params.toList args.toList ds p := hA0
  rw [Try.params12] at hA hval
  obtain ⟨v0, vs0, d0, ds0, p0, q0, hargs, rfl, rfl, h0, r0⟩ := trodAll_cons hA
  obtain ⟨v1, vs1, d1, ds1, p1, q1, rfl, rfl, rfl, h1, r1⟩ := trodAll_cons r0
  obtain ⟨rfl, rfl, rfl⟩ := trodAll_nil r1
  obtain rfl : args = #[v0, v1] := by cases args; simp_all
  obtain ⟨rfl, rfl⟩ := trodVars_none hV
  have k0 := h0
  have lt0 : ∀ x ∈ p0, x.block < W.heap.size := by obtain ⟨m, hm⟩ := k0; exact DataW.trod_lt m _ _ _ hm
  obtain ⟨o0, n0, c0, K0, rfl, hn0, hi0, hc0⟩ := keys_view (okWide_slice Try.underlying61 (hval 0 61 v0 rfl rfl)) h0
  have k1 := h1
  have lt1 : ∀ x ∈ p1, x.block < W.heap.size := by obtain ⟨m, hm⟩ := k1; exact DataW.trod_lt m _ _ _ hm
  obtain ⟨o1, n1, c1, K1, rfl, hn1, hi1, hc1⟩ := keys_view (okWide_slice Try.underlying61 (hval 1 61 v1 rfl rfl)) h1
  clear hA0 hval0
  have walk : Calls Try.prog 12 #[.slice o0 n0 c0, .slice o1 n1 c1] W (Ret (.bool true) W) := by
    by_cases h : (n0 ≤ 20 ∧ ∀ i, i < n0 → (K0 i).n ≤ 6) ∧ (n1 ≤ 20 ∧ ∀ i, i < n1 → (K1 i).n ≤ 6)
    · exact merges_short K0 K1 n0 n1 c0 c1 o0 o1 h.1.1 h.2.1 h.1.2 h.2.2 hc0 hc1 W hi0 hi1
    · exact merges_long K0 K1 n0 n1 c0 c1 o0 o1 hn0 hn1 W hi0 hi1 h
  refine walk.mono fun e W' ⟨he, bel⟩ => ?_
  subst he
  exact ⟨_, rfl, _, _, _, [], _, [], hW', trodAll_mk1 (shut_bool Try.underlying4 _), (trodAll_cons_mk (Below.trod vLaidOut (by kernel_rfl) (of_decide_eq_true (by kernel_rfl)) k0 bel lt0) (trodAll_cons_mk (Below.trod vLaidOut (by kernel_rfl) (of_decide_eq_true (by kernel_rfl)) k1 bel lt1) trodAll_mk0)), rfl, bel.frame _, fun h => by cases h⟩
theorem over : Rows.rankMergesRow.holds Try.pinned (OpenSpec.ofChange Rows.rankMergesSpec) :=
  OpenClaim.holds_of_wide 12 Try.f12 rfl rfl rfl rfl rfl rfl rfl ⟨rfl, rfl, rfl, rfl, rfl⟩ rfl rfl rfl rfl rfl (by kernel_rfl) Try.func12 (by kernel_rfl)
    (of_decide_eq_true (by kernel_rfl)) (by unfold Func.isWrapper; first | (rw [if_pos (by decide +kernel)]; kernel_rfl) | (rw [if_neg (by decide +kernel)]; exact ⟨rfl, rfl⟩))
    (fun os started H enc _ => lifted os started H enc)
theorem proved : Rows.RankMergesSaid := over
#print axioms proved
end Go.Proofs.Ytncbieaobadekaa.rankMerges
