/- Package money: upper, the closure of Sum, Sum: the sum of any amounts, in two words. -/
import Derived.Test.YtncbieaobadekaaSMoneySumRef
import Derived.Laws.Externs
import Derived.Shelf.Spec.BitsCarry
import Derived.Deep.RegionHeld3
import Derived.OneCell
namespace Go.Proofs.Ytncbieaobadekaa
open Go.ChangeShapes Go.WideShapes Go.ChangeAt Go.RowKit
/-- An amount's lower word, and its upper one. -/
def lowW (a : Int) : Nat := (a % 18446744073709551616).toNat
def upW (a : Int) : Nat := if a < 0 then 18446744073709551615 else 0
theorem lowW_wrap (a : Int) : IntKind.u64.wrap a = ((lowW a : Nat) : Int) := by
  rw [IntKind.wrap_u64, lowW]
  omega
theorem lowW_lt (a : Int) : lowW a < 18446744073709551616 := by unfold lowW; omega
theorem upW_wrap (a : Int) (ha : -9223372036854775808 ≤ a ∧ a ≤ 9223372036854775807) : IntKind.u64.wrap (a / 9223372036854775808) = ((upW a : Nat) : Int) := by
  rw [IntKind.wrap_u64, upW]
  split <;> omega
set_option maxHeartbeats 400000 in
theorem upper_any (a : Int) (ha : -9223372036854775808 ≤ a ∧ a ≤ 9223372036854775807) (w : World) :
    Calls Try.prog 91 #[.int .i64 a] w (RetS (.int .u64 (upW a : Nat)) w) := by
  have HQ := Lib.hid (upW_wrap a ha)
  go_enter Try.func91, Try.ntmps91
  go_wp2
  go_ret
  exact ⟨by rw [← HQ.out]; rfl, rfl⟩
/-- Two words hold the sum S, but for whole rounds. -/
def Words (S : Int) (hi lo : Nat) : Prop := hi < 18446744073709551616 ∧ lo < 18446744073709551616 ∧ ∃ q : Int, (hi : Int) * 18446744073709551616 + lo = S + q * 340282366920938463463374607431768211456
theorem Words.next {S a : Int} {hi lo : Nat} (h : Words S hi lo) (ha : -9223372036854775808 ≤ a ∧ a ≤ 9223372036854775807) :
    Words (S + a) ((hi + upW a + (lo + lowW a) / 18446744073709551616) % 18446744073709551616) ((lo + lowW a) % 18446744073709551616) := by
  obtain ⟨h1, h2, q, h3⟩ := h
  refine ⟨by omega, by omega, ?_⟩
  have hl := lowW_lt a
  have hL : (lowW a : Int) = a % 18446744073709551616 := by unfold lowW; omega
  by_cases c : a < 0
  · have hu : upW a = 18446744073709551615 := if_pos c
    have hL2 : (lowW a : Int) = a + 18446744073709551616 := by omega
    rw [hu]
    generalize lowW a = l at *
    by_cases d : lo + l < 18446744073709551616
    · by_cases d2 : hi = 0
      · exact ⟨q + 1, by omega⟩
      · exact ⟨q, by omega⟩
    · exact ⟨q, by omega⟩
  · have hu : upW a = 0 := if_neg c
    have hL2 : (lowW a : Int) = a := by omega
    rw [hu]
    generalize lowW a = l at *
    by_cases d : lo + l < 18446744073709551616
    · exact ⟨q, by omega⟩
    · by_cases d2 : hi + 1 < 18446744073709551616
      · exact ⟨q, by omega⟩
      · exact ⟨q - 1, by omega⟩
/-- A block of one word. -/
def oneW (n : Nat) : Obj := .cells #[.int .u64 (n : Nat)] 80 (0, 0)
/-- What the closure leaves: the two words, some carry, and all else below. -/
def Put (B : Nat) (hi lo : Nat) (w : World) (e : Ending) (w' : World) : Prop :=
  e = .returned (.tuple #[]) ∧ ∃ cy : Nat, w'.heap[B]? = some (oneW hi) ∧ w'.heap[B + 1]? = some (oneW lo) ∧ w'.heap[B + 2]? = some (oneW cy) ∧ Below B w w'
set_option maxHeartbeats 1000000 in
theorem put_any (a : Int) (ha : -9223372036854775808 ≤ a ∧ a ≤ 9223372036854775807) (hi lo cy B : Nat) (w : World)
    (cH : w.heap[B]? = some (oneW hi)) (cL : w.heap[B + 1]? = some (oneW lo)) (cC : w.heap[B + 2]? = some (oneW cy)) (hlo : lo < 18446744073709551616) :
    Calls Try.prog 89 #[.int .i64 a, .pointer (some ⟨B + 1, 0, none⟩), .pointer (some ⟨B + 2, 0, none⟩), .pointer (some ⟨B, 0, none⟩)] w
      (Put B ((hi + upW a + (lo + lowW a) / 18446744073709551616) % 18446744073709551616) ((lo + lowW a) % 18446744073709551616) w) := by
  have h0 := add64_run0 lo (lowW a)
  have h1 := add64_run hi (upW a) ((lo + lowW a) / 18446744073709551616) (by have := lowW_lt a; omega)
  have HU := Lib.hid (fun (w : World) => upper_any a ha w)
  have hw := lowW_wrap a
  have k1 := cell_of_one cL
  have k2 := cell_of_one cH
  have k3 := cell_of_one cC
  have f1 := free_of_one cL
  have f2 := free_of_one cH
  have f3 := free_of_one cC
  generalize (lo + lowW a) / 18446744073709551616 = c at *
  generalize (lo + lowW a) % 18446744073709551616 = lo1 at *
  generalize (hi + upW a + c) % 18446744073709551616 = hi1 at *
  generalize (hi + upW a + c) / 18446744073709551616 = ov at *
  have CH := Lib.hid cH
  have CL := Lib.hid cL
  have CC := Lib.hid cC
  clear cH cL cC ha hlo
  go_enter Try.func89, Try.ntmps89
  go_wp2
  have b1 : ((w.setCell ⟨B + 1, 0, none⟩ (.int .u64 (lo1 : Nat))).setCell ⟨B + 2, 0, none⟩ (.int .u64 (c : Nat))).heap[B + 2]? = some (oneW c) :=
    one_setCell (by rw [Below.heap_setCell _ _ _ _ (by simp)]; exact CC.out)
  have kS := cell_of_one b1
  go_region_with ((go_at_call 91; refine (HU.out _).mono ?_; rintro e w1 ⟨rfl, rfl⟩))
  all_goals
    go_end0
    refine ⟨rfl, c, ?_, ?_, ?_, ?_⟩
    · exact one_setCell (by rw [Below.heap_setCell _ _ _ _ (by simp), Below.heap_setCell _ _ _ _ (by simp)]; exact CH.out)
    · exact (Below.heap_setCell _ _ _ _ (by simp)).trans ((Below.heap_setCell _ _ _ _ (by simp)).trans (one_setCell CL.out))
    · exact (Below.heap_setCell _ _ _ _ (by simp)).trans b1
    · exact ((((Below.refl _ _).setCell (by simp) _).setCell (by simp) _).setCell (by simp) _).drew
end Go.Proofs.Ytncbieaobadekaa
