/- Package money: Sum: the sum of any amounts, or that it is none. -/
import Derived.Test.YtncbieaobadekaaSMoneySum
namespace Go.Proofs.Ytncbieaobadekaa
open Go.ChangeShapes Go.WideShapes Go.ChangeAt Go.RowKit
theorem Words.start : Words 0 0 0 := ⟨by omega, by omega, 0, by omega⟩
/-- What the two words tell in the end. -/
theorem Words.tells {S : Int} {hi lo : Nat} (h : Words S hi lo) (hS : -18446744073709551616000000 ≤ S ∧ S ≤ 18446744073709551616000000) :
    ((-9223372036854775808 ≤ S ∧ S ≤ 9223372036854775807) ∧ wrap64 (lo : Int) = S ∧ hi = upW S) ∨ (¬ (-9223372036854775808 ≤ S ∧ S ≤ 9223372036854775807) ∧ hi ≠ upW (wrap64 (lo : Int))) := by
  obtain ⟨h1, h2, q, h3⟩ := h
  by_cases c : (lo : Int) < 9223372036854775808
  · have e : wrap64 (lo : Int) = lo := by unfold wrap64; omega
    have u : upW (lo : Int) = 0 := if_neg (by omega)
    rw [e, u]
    by_cases d : -9223372036854775808 ≤ S ∧ S ≤ 9223372036854775807
    · refine Or.inl ⟨d, by omega, ?_⟩
      rw [upW]
      split <;> omega
    · exact Or.inr ⟨d, by omega⟩
  · have e : wrap64 (lo : Int) = lo - 18446744073709551616 := by unfold wrap64; omega
    have u : upW ((lo : Int) - 18446744073709551616) = 18446744073709551615 := if_pos (by omega)
    rw [e, u]
    by_cases d : -9223372036854775808 ≤ S ∧ S ≤ 9223372036854775807
    · refine Or.inl ⟨d, by omega, ?_⟩
      rw [upW]
      split <;> omega
    · exact Or.inr ⟨d, by omega⟩
theorem sumTo_bound (z : Nat → Int) (n : Nat) (hz : ∀ i, i < n → -9223372036854775808 ≤ z i ∧ z i ≤ 9223372036854775807) : -9223372036854775808 * (n : Int) ≤ sumTo z n ∧ sumTo z n ≤ 9223372036854775807 * (n : Int) := by
  induction n with
  | zero => simp [sumTo]
  | succ n ih =>
    have h := ih (fun i hi => hz i (by omega))
    have h2 := hz n (by omega)
    rw [sumTo]
    omega
set_option maxHeartbeats 1000000 in
theorem msum_any (z : Nat → Int) (n cap b off : Nat) (hn : n ≤ 1000000) (hz : ∀ i, i < n → -9223372036854775808 ≤ z i ∧ z i ≤ 9223372036854775807) (w : World)
    (hc : ∀ i, i < n → w.cell? ⟨b, off + i, none⟩ = some (.int .i64 (z i))) (hb : b < w.heap.size) :
    Calls Try.prog 74 #[.slice (some ⟨b, off, none⟩) n cap] w (Ret (amt (sumTo z n)) w) := by
  have HC := Lib.hid hc
  have HZ := Lib.hid hz
  have hn2 : (n : Int) ≤ 1000000 := by omega
  clear hc hz hn
  go_enter Try.func74, Try.ntmps74
  go_wp2_with fail
  obtain ⟨B, hB⟩ : ∃ B, B = w.heap.size := ⟨_, rfl⟩
  have HB := Lib.hid hB
  clear hB
  go_loopw [14] (fun iv wr => ∃ (k hi lo cy : Nat), k ≤ n ∧ iv = .int .i64 (k : Nat) ∧ Words (sumTo z k) hi lo ∧ wr.heap[w.heap.size]? = some (oneW hi) ∧ wr.heap[w.heap.size + 1]? = some (oneW lo) ∧ wr.heap[w.heap.size + 2]? = some (oneW cy) ∧ Below w.heap.size w wr) (fun iv _ => n - (intOf iv).toNat)
  case atStart => exact ⟨0, 0, 0, 0, Nat.zero_le _, rfl, Words.start, by rw [Below.heap_alloc _ _ _ (by simp; omega), Below.heap_alloc _ _ _ (by simp)]; exact heap_alloc_new _ _, by rw [Below.heap_alloc _ _ _ (by simp), show w.heap.size + 1 = (w.alloc (Obj.cells #[Value.int IntKind.u64 0] 80)).heap.size from by simp]; exact heap_alloc_new _ _, by rw [show w.heap.size + 2 = ((w.alloc (Obj.cells #[Value.int IntKind.u64 0] 80)).alloc (Obj.cells #[Value.int IntKind.u64 0] 80)).heap.size from by simp]; exact heap_alloc_new _ _, by go_grown⟩
  case round =>
    obtain ⟨k, hi, lo, cy, hk, rfl, hW, cH, cL, cC, hbel⟩ := hrel
    have hk2 : (k : Int) ≤ n := by omega
    by_cases hlt : k < n
    · have hcell := (hbel.cell (by exact hb)).trans (HC.out k hlt)
      have hzk := HZ.out k hlt
      have HN := Lib.hid (show Words (sumTo z (k + 1)) _ _ from hW.next hzk)
      have HP := Lib.hid (fun w' cH cL cC => put_any (z k) hzk hi lo cy w.heap.size w' cH cL cC hW.2.1)
      have HBel := Lib.hid hbel
      clear hW hbel hzk
      generalize z k = x at *
      go_wp2_with fail
      refine (HP.out _ cH cL cC).mono ?_
      rintro e w1 ⟨rfl, cy1, cH1, cL1, cC1, hb1⟩
      have HB1 := Lib.hid hb1
      clear hb1 cH cL cC
      go_wp2_with fail
      go_roundw
      case rel => exact ⟨k + 1, _, _, cy1, by omega, by go_num, HN.out, cH1, cL1, cC1, HBel.out.trans HB1.out⟩
      case measure => simp [intOf]; omega
    · obtain rfl : k = n := by omega
      have hbd := sumTo_bound z k HZ.out
      have ht := hW.tells (by omega)
      have k1 := cell_of_one cH
      have k2 := cell_of_one cL
      have hx : -9223372036854775808 ≤ wrap64 (lo : Int) ∧ wrap64 (lo : Int) ≤ 9223372036854775807 := by unfold wrap64; omega
      have HU := Lib.hid (fun (w : World) => upper_any (wrap64 (lo : Int)) hx w)
      have HBel := Lib.hid hbel
      clear hW hbel cH cL cC hbd
      rcases ht with ⟨hin, hv, he⟩ | ⟨hout, hne⟩
      · have HV := Lib.hid (amt_in hin)
        rw [hv] at HU
        have HVV := Lib.hid hv
        have b1 : ((hi : Int) != ((upW (sumTo z k) : Nat) : Int)) = false := by rw [he]; simp
        generalize sumTo z k = s at *
        clear hv hin hx he
        go_wp2_with fail
        rw [HVV.out]
        go_region_held3 (fun w' => w'.cell? ⟨w.heap.size, 0, none⟩ = some (.int .u64 (hi : Nat))) (go_keep) ((go_at_call 91; refine (HU.out _).mono ?_; rintro e w1 ⟨rfl, rfl⟩))
        all_goals
          go_wp2
          go_ret2
          exact ⟨by rw [HV.out]; rfl, HBel.out.drew⟩
      · have HV := Lib.hid (amt_out hout)
        have b1 : ((hi : Int) != ((upW (wrap64 (lo : Int)) : Nat) : Int)) = true := by rw [bne_iff_ne]; omega
        generalize upW (wrap64 (lo : Int)) = u at *
        obtain ⟨x, hxx⟩ : ∃ x, wrap64 (lo : Int) = x := ⟨_, rfl⟩
        rw [hxx] at HU
        have HXX := Lib.hid hxx
        clear hout hx hne hxx
        go_wp2_with fail
        rw [HXX.out]
        go_region_held3 (fun w' => w'.cell? ⟨w.heap.size, 0, none⟩ = some (.int .u64 (hi : Nat))) (go_keep) ((go_at_call 91; refine (HU.out _).mono ?_; rintro e w1 ⟨rfl, rfl⟩))
        all_goals
          go_wp2
          go_ret2
          exact ⟨by rw [HV.out]; rfl, HBel.out.drew⟩
end Go.Proofs.Ytncbieaobadekaa
