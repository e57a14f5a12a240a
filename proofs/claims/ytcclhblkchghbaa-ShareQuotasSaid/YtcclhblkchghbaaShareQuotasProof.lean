/- ShareQuotas holds for every input: one part alone, rounded down, and what is left of it, or why there is none; and what any parts lack in any claims, as the document has it. No conditions. -/
import Derived.Test.YtcclhblkchghbaaRows
import Derived.Test.YtcclhblkchghbaaShareQBada
import Derived.Test.YtcclhblkchghbaaShareQBadb
import Derived.Test.YtcclhblkchghbaaShareQBadc
import Derived.Test.YtcclhblkchghbaaShareQBadd
import Derived.Test.YtcclhblkchghbaaShareQGood
import Derived.WalkKit
import Derived.ProofKit
import Derived.OpenShut
import Derived.ChangeOld
import Derived.Below
import Derived.LaidMore
import Derived.Stop.Joined
import Derived.Lib.SmallJoins
namespace Go.Proofs.Ytcclhblkchghbaa.shareQuotas
open Go.ChangeShapes Go.WideShapes Go.ChangeAt Go.WideElems Go.RowKit Go.Joins
set_option linter.unusedVariables false
theorem own : ownKnob Try.prog.godebug = none := by kernel_rfl
theorem cellsA : Try.prog.cellsOf 33 = 3 := by kernel_rfl
theorem cellsI : Try.prog.cellsOf 2 = 1 := by kernel_rfl
theorem laidOut : laidOutB Try.prog = true := by kernel_rfl
theorem okArray {P : Program} {w : World} {r : Reach} {base : Nat} {t e : TypeId} {n : Nat} {v : Value} (ht : P.underlying t = some (.array n e)) (h : Value.okWide P w r base t v) : ∃ cs, v = .agg cs ∧ cs.size = P.cellsOf t := by
  simp only [Value.okWide, ht] at h
  obtain ⟨cs, h1, h2, _⟩ := h
  exact ⟨cs, h1, h2⟩
theorem walk (x0 x1 x2 : Int) (w0 : (Lit.int .i64 x0).wf = true) (w1 : (Lit.int .i64 x1).wf = true) (w2 : (Lit.int .i64 x2).wf = true) (z y : Nat → Int) (n cap m cap' : Nat) (ao bo : Option Addr) (hn : n ≤ 9223372036854775807) (hm : m ≤ 9223372036854775807) (hz : ∀ i, i < n → -9223372036854775808 ≤ z i ∧ z i ≤ 9223372036854775807) (w : World) (h1 : IntsAt w ao n z) (h2 : IntsAt w bo m y) :
    Calls Try.prog 7 #[.agg #[.int .i64 x0, .int .i64 x1, .int .i64 x2], .slice ao n cap, .slice bo m cap'] w (Ret (.bool true) w) := by
  by_cases hl : 60 < n ∨ 60 < m
  · exact quotas_long x0 x1 x2 n cap m cap' ao bo hn hm hl w
  have b0 := bounds_i64 w0
  have b2 := bounds_i64 w2
  by_cases c0 : x0 < 0
  · exact quotas_bada x0 x1 x2 z y n cap m cap' ao bo (by omega) (by omega) hz c0 w h1 h2
  by_cases c1 : x1 < 0
  · exact quotas_badb x0 x1 x2 z y n cap m cap' ao bo (by omega) (by omega) hz c0 c1 w h1 h2
  by_cases c2 : x2 < x1
  · exact quotas_badc x0 x1 x2 z y n cap m cap' ao bo (by omega) (by omega) hz c0 c1 c2 w h1 h2
  by_cases c3 : x2 = 0
  · exact quotas_badd x0 x1 x2 z y n cap m cap' ao bo (by omega) (by omega) hz c0 c1 c2 c3 w h1 h2
  obtain ⟨a, rfl⟩ : ∃ a : Nat, x0 = a := ⟨x0.toNat, by omega⟩
  obtain ⟨b, rfl⟩ : ∃ b : Nat, x1 = b := ⟨x1.toNat, by omega⟩
  obtain ⟨c, rfl⟩ : ∃ c : Nat, x2 = c := ⟨x2.toNat, by omega⟩
  exact quotas_good a b c z y n cap m cap' ao bo (by omega) (by omega) hz (by omega) (by omega) (by omega) (by omega) w h1 h2
set_option maxRecDepth 100000 in
theorem lifted (os : Os) (started : os.Started) (H : Type) (enc : TypeId × Value → H) :
    ReturnsInHanded {} Try.checked os 7 .any (Rows.shareQuotasSpec.pre6 enc Try.prog Try.f7 Rows.shareQuotasRow.domain false) (Rows.shareQuotasSpec.post enc Try.prog Try.f7 false true false false) := by
  refine returnsInHanded_of_change (C := Try.checked) own started (by kernel_rfl) Try.func7
    (ChangeSpec.witness6 (enc := enc) (C := Try.checked) false ⟨#[], #[.agg #[.int .i64 0, .int .i64 0, .int .i64 0], .slice none 0 0, .slice none 0 0], []⟩ 8 (by kernel_rfl) (by kernel_rfl) (by kernel_rfl) (by kernel_rfl)) ?_
  intro W base args ds gs before hval0 hW hcnd _
  have hval : ∀ (j : Nat) t v, Try.f7.params[j]? = some t → args[j]? = some v → Value.okWide Try.prog W .any base t v := hval0
  have hW' := hW
  obtain ⟨p, q, hA0, hV, rfl, hfz, hnd⟩ := hW
  have hA : DataW.TrodAll enc Try.prog W 0 (fun _ => true) true Try.f7.params.toList args.toList ds p := hA0
  rw [Try.params7] at hA hval
  obtain ⟨v0, vs0, d0, ds0, p0, q0, hargs, rfl, rfl, h0, r0⟩ := trodAll_cons hA
  obtain ⟨v1, vs1, d1, ds1, p1, q1, rfl, rfl, rfl, h1, r1⟩ := trodAll_cons r0
  obtain ⟨v2, vs2, d2, ds2, p2, q2, rfl, rfl, rfl, h2, r2⟩ := trodAll_cons r1
  obtain ⟨rfl, rfl, rfl⟩ := trodAll_nil r2
  obtain rfl : args = #[v0, v1, v2] := by cases args; simp_all
  obtain ⟨rfl, rfl⟩ := trodVars_none hV
  have k0 := h0
  have lt0 : ∀ x ∈ p0, x.block < W.heap.size := by obtain ⟨m, hm⟩ := k0; exact DataW.trod_lt m _ _ _ hm
  have k1 := h1
  have lt1 : ∀ x ∈ p1, x.block < W.heap.size := by obtain ⟨m, hm⟩ := k1; exact DataW.trod_lt m _ _ _ hm
  have k2 := h2
  have lt2 : ∀ x ∈ p2, x.block < W.heap.size := by obtain ⟨m, hm⟩ := k2; exact DataW.trod_lt m _ _ _ hm
  obtain ⟨cs, rfl, hcs⟩ := okArray Try.underlying33 (hval 0 33 v0 rfl rfl)
  rw [cellsA] at hcs
  obtain ⟨c0, c1, c2, rfl⟩ := array3 hcs
  obtain ⟨x0, x1, x2, rfl, rfl, rfl, w0, w1, w2⟩ : ∃ x0 x1 x2 : Int, c0 = .int .i64 x0 ∧ c1 = .int .i64 x1 ∧ c2 = .int .i64 x2 ∧ (Lit.int .i64 x0).wf = true ∧ (Lit.int .i64 x1).wf = true ∧ (Lit.int .i64 x2).wf = true := by
    obtain ⟨fuel, hf⟩ := h0
    obtain ⟨xs, m, _, hx, _, hl, hi⟩ := DataW.trod_array Try.underlying33 hf
    have g0 := hi 0 (by omega)
    have g1 := hi 1 (by omega)
    have g2 := hi 2 (by omega)
    match xs, hl with
    | [y0, y1, y2], _ =>
      rw [cellsI] at g0 g1 g2
      simp [Value.cells] at g0 g1 g2
      obtain ⟨a, e0, _, wa⟩ := DataW.trod_int Try.underlying2 g0
      obtain ⟨b, e1, _, wb⟩ := DataW.trod_int Try.underlying2 g1
      obtain ⟨c, e2, _, wc⟩ := DataW.trod_int Try.underlying2 g2
      simp at e0 e1 e2
      exact ⟨a, b, c, e0, e1, e2, wa, wb, wc⟩
  obtain ⟨ao, len, cap, rfl⟩ := okWide_slice Try.underlying22 (hval 1 22 v1 rfl rfl)
  obtain ⟨bo, len2, cap2, rfl⟩ := okWide_slice Try.underlying22 (hval 2 22 v2 rfl rfl)
  have R1 : ∃ z : Nat → Int, len ≤ 9223372036854775807 ∧ (∀ i, i < len → -9223372036854775808 ≤ z i ∧ z i ≤ 9223372036854775807) ∧ IntsAt W ao len z := by
    obtain ⟨fuel, hf⟩ := h1
    rcases open_ints Try.underlying22 Try.underlying2 cellsI hf with ⟨hcs, hx⟩ | ⟨ad, len', cap', zs, hcs, _, hl, hm, hz, hx, hcell, hwz⟩
    · simp [Value.cells] at hcs
      obtain ⟨rfl, rfl, rfl⟩ := hcs
      exact ⟨fun _ => 0, by omega, fun _ _ => by omega, fun h => absurd h (Nat.lt_irrefl 0)⟩
    · simp [Value.cells] at hcs
      obtain ⟨rfl, rfl, rfl⟩ := hcs
      simp only [if_true] at hz
      refine ⟨fun i => zs.getD i 0, by unfold maxLen at hm; omega, fun i hi => ?_, fun hp => ?_⟩
      · have hlt : i < zs.length := by omega
        have e : zs.getD i 0 = zs[i] := by simp [List.getD, hlt]
        show _ ≤ zs.getD i 0 ∧ zs.getD i 0 ≤ _
        rw [e]
        exact bounds_i64 (hwz _ (List.getElem_mem hlt))
      · obtain ⟨b, off, spot⟩ := ad
        have hspot : spot = none := by simpa [Addr.add] using World.cell?_spot (hcell 0 (by omega))
        subst hspot
        exact ⟨b, off, rfl, World.block_lt_of_cell? W ⟨b, off + 0, none⟩ (by rw [← add_plain]; exact hcell 0 (by omega)), fun i hi => by rw [← add_plain]; exact hcell i (by omega)⟩
  have R2 : ∃ z : Nat → Int, len2 ≤ 9223372036854775807 ∧ (∀ i, i < len2 → -9223372036854775808 ≤ z i ∧ z i ≤ 9223372036854775807) ∧ IntsAt W bo len2 z := by
    obtain ⟨fuel, hf⟩ := h2
    rcases open_ints Try.underlying22 Try.underlying2 cellsI hf with ⟨hcs, hx⟩ | ⟨ad, len', cap', zs, hcs, _, hl, hm, hz, hx, hcell, hwz⟩
    · simp [Value.cells] at hcs
      obtain ⟨rfl, rfl, rfl⟩ := hcs
      exact ⟨fun _ => 0, by omega, fun _ _ => by omega, fun h => absurd h (Nat.lt_irrefl 0)⟩
    · simp [Value.cells] at hcs
      obtain ⟨rfl, rfl, rfl⟩ := hcs
      simp only [if_true] at hz
      refine ⟨fun i => zs.getD i 0, by unfold maxLen at hm; omega, fun i hi => ?_, fun hp => ?_⟩
      · have hlt : i < zs.length := by omega
        have e : zs.getD i 0 = zs[i] := by simp [List.getD, hlt]
        show _ ≤ zs.getD i 0 ∧ zs.getD i 0 ≤ _
        rw [e]
        exact bounds_i64 (hwz _ (List.getElem_mem hlt))
      · obtain ⟨b, off, spot⟩ := ad
        have hspot : spot = none := by simpa [Addr.add] using World.cell?_spot (hcell 0 (by omega))
        subst hspot
        exact ⟨b, off, rfl, World.block_lt_of_cell? W ⟨b, off + 0, none⟩ (by rw [← add_plain]; exact hcell 0 (by omega)), fun i hi => by rw [← add_plain]; exact hcell i (by omega)⟩
  clear hA0 hval0
  obtain ⟨z, hn, hz, hi1⟩ := R1
  obtain ⟨y, hm, hy, hi2⟩ := R2
  refine (walk x0 x1 x2 w0 w1 w2 z y len cap len2 cap2 ao bo hn hm hz W hi1 hi2).mono fun e W' ⟨he, bel⟩ => ?_
  subst he
  exact ⟨_, rfl, _, _, _, [], _, [], hW', trodAll_mk1 (shut_bool Try.underlying4 _), (trodAll_cons_mk (Below.trod laidOut (by kernel_rfl) (of_decide_eq_true (by kernel_rfl)) k0 bel lt0) (trodAll_cons_mk (Below.trod laidOut (by kernel_rfl) (of_decide_eq_true (by kernel_rfl)) k1 bel lt1) (trodAll_cons_mk (Below.trod laidOut (by kernel_rfl) (of_decide_eq_true (by kernel_rfl)) k2 bel lt2) trodAll_mk0))), rfl, bel.frame _, fun h => by cases h⟩
theorem over : Rows.shareQuotasRow.holds Try.pinned (OpenSpec.ofChange Rows.shareQuotasSpec) :=
  OpenClaim.holds_of_wide 7 Try.f7 rfl rfl rfl rfl rfl rfl rfl ⟨rfl, rfl, rfl, rfl, rfl⟩ rfl rfl rfl rfl rfl (by kernel_rfl) Try.func7 (by kernel_rfl)
    (of_decide_eq_true (by kernel_rfl)) (by unfold Func.isWrapper; first | (rw [if_pos (by decide +kernel)]; kernel_rfl) | (rw [if_neg (by decide +kernel)]; exact ⟨rfl, rfl⟩))
    (fun os started H enc _ => lifted os started H enc)
theorem proved : Rows.ShareQuotasSaid := over
#print axioms proved
end Go.Proofs.Ytcclhblkchghbaa.shareQuotas
