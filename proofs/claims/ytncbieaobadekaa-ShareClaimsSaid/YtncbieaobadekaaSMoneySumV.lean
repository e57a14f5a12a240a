/- Sums of whatever slice of amounts, nil and empty too. -/
import Derived.Test.YtncbieaobadekaaSMoneySum2
import Derived.OwnWalk
import Derived.Laws.OwnMore
namespace Go.Proofs.Ytncbieaobadekaa
open Go.ChangeShapes Go.WideShapes Go.ChangeAt Go.RowKit
theorem msum_nil (ao : Option Addr) (cap : Nat) (w : World) : Calls Try.prog 74 #[.slice ao 0 cap] w (Ret (amt 0) w) := by
  have HV := Lib.hid (amt_in (n := 0) (by omega))
  have HU := Lib.hid (fun (w : World) => upper_any 0 (by omega) w)
  rw [show upW 0 = 0 from rfl] at HU
  go_enter Try.func74, Try.ntmps74
  go_wp2_with fail
  go_rounds 1
  go_region_held3 (fun w' => w'.cell? ⟨w.heap.size, 0, none⟩ = some (.int .u64 0)) (go_keep) ((go_at_call 91; refine (HU.out _).mono ?_; rintro e w1 ⟨rfl, rfl⟩))
  all_goals
    go_wp2
    go_ret2
    exact ⟨by rw [HV.out]; rfl, by go_grown⟩
theorem refsum_nil (ao : Option Addr) (cap : Nat) (w : World) : Calls Try.prog 19 #[.slice ao 0 cap] w (RetS (amt 0) w) := by
  have HV := Lib.hid (amt_in (n := 0) (by omega))
  go_enter Try.func19, Try.ntmps19
  go_wp2_with fail
  go_rounds 1
  go_ret2
  exact ⟨by rw [HV.out]; rfl, rfl⟩
theorem msumV (z : Nat → Int) (n cap : Nat) (ao : Option Addr) (hn : n ≤ 1000000) (hz : ∀ i, i < n → -9223372036854775808 ≤ z i ∧ z i ≤ 9223372036854775807) (w : World) (h : IntsAt w ao n z) :
    Calls Try.prog 74 #[.slice ao n cap] w (Ret (amt (sumTo z n)) w) := by
  rcases Nat.eq_zero_or_pos n with rfl | hp
  · exact msum_nil ao cap w
  · obtain ⟨b, off, rfl, hlt, hc⟩ := h hp
    exact msum_any z n cap b off hn hz w hc hlt
theorem refsumV (z : Nat → Int) (n cap : Nat) (ao : Option Addr) (hn : n ≤ 1000000) (hz : ∀ i, i < n → -9223372036854775808 ≤ z i ∧ z i ≤ 9223372036854775807) (w : World) (h : IntsAt w ao n z) :
    Calls Try.prog 19 #[.slice ao n cap] w (RetS (amt (sumTo z n)) w) := by
  rcases Nat.eq_zero_or_pos n with rfl | hp
  · exact refsum_nil ao cap w
  · obtain ⟨b, off, rfl, hlt, hc⟩ := h hp
    exact refsum_any z n cap b off hn hz w hc
/-- A row that the call owns, of amounts. -/
def OwnsInts (w : World) (B : Nat) (v : Value) (n : Nat) (z : Nat → Int) : Prop := w.ownsRow B 2 1 v n ((List.range n).map fun t => Value.int .i64 (z t))
theorem OwnsInts.view {w : World} {B n : Nat} {v : Value} {z : Nat → Int} (h : OwnsInts w B v n z) : ∃ ao cap, v = .slice ao n cap ∧ IntsAt w ao n z := by
  rcases h.2 with ⟨rfl, rfl⟩ | ⟨g, cap, cur, rfl, hB, hh, hr⟩
  · exact ⟨none, 0, rfl, fun hn => absurd hn (Nat.lt_irrefl 0)⟩
  · refine ⟨some ⟨g, 0, none⟩, cap, rfl, fun _ => ⟨g, 0, rfl, lt_of_block hh, fun i hi => ?_⟩⟩
    rw [Nat.zero_add, World.ownsRow.cellAt h i (by omega)]
    simp [hi]
theorem OwnsInts.nil (w : World) (B : Nat) (z : Nat → Int) : OwnsInts w B (.slice none 0 0) 0 z := World.ownsRow_nil _ _ _ _
theorem OwnsInts.next {w' : World} {B n : Nat} {v' : Value} {z : Nat → Int} (h : w'.ownsRow B 2 1 v' (n + 1) ((List.range n).map (fun t => Value.int .i64 (z t)) ++ [Value.int .i64 (z n)])) : OwnsInts w' B v' (n + 1) z := by
  unfold OwnsInts
  rw [List.range_succ, List.map_append]
  exact h
/-- The same amounts, turned round at a place, come to the same. -/
theorem sumTo_congr {f g : Nat → Int} : ∀ (n : Nat), (∀ i, i < n → f i = g i) → sumTo f n = sumTo g n
  | 0, _ => rfl
  | n + 1, h => by rw [sumTo, sumTo, sumTo_congr n (fun i hi => h i (by omega)), h n (by omega)]
theorem sumTo_add (f : Nat → Int) (k : Nat) : ∀ m, sumTo f (k + m) = sumTo f k + sumTo (fun t => f (k + t)) m
  | 0 => by simp [sumTo]
  | m + 1 => by
    have h : k + (m + 1) = (k + m) + 1 := by omega
    rw [h, sumTo, sumTo, sumTo_add f k m]
    omega
theorem sumTo_shift (f : Nat → Int) (m : Nat) : sumTo f (m + 1) = f 0 + sumTo (fun t => f (t + 1)) m := by
  have h := sumTo_add f 1 m
  rw [Nat.add_comm 1 m] at h
  rw [h, sumTo_congr m (fun i _ => show f (1 + i) = f (i + 1) by rw [Nat.add_comm])]
  simp [sumTo]
theorem sumTo_rev (f : Nat → Int) : ∀ m, sumTo (fun t => f (m - 1 - t)) m = sumTo f m
  | 0 => rfl
  | m + 1 => by
    rw [sumTo_shift, sumTo, ← sumTo_rev f m, sumTo_congr m (fun i hi => show f (m + 1 - 1 - (i + 1)) = f (m - 1 - i) by congr 1; omega)]
    simp only [Nat.add_sub_cancel, Nat.sub_zero]
    omega
def turnedZ (z : Nat → Int) (n k : Nat) (t : Nat) : Int := if t < n - k then z (n - 1 - t) else z (t - (n - k))
theorem sumTo_turned (z : Nat → Int) (n k : Nat) (hk : k ≤ n) : sumTo (turnedZ z n k) n = sumTo z n := by
  obtain ⟨m, rfl⟩ : ∃ m, n = k + m := ⟨n - k, by omega⟩
  have h1 := sumTo_add (turnedZ z (k + m) k) m k
  rw [Nat.add_comm m k] at h1
  rw [h1, sumTo_add z k m]
  have h2 : sumTo (turnedZ z (k + m) k) m = sumTo (fun t => z (k + t)) m := by
    rw [← sumTo_rev (fun t => z (k + t)) m]
    refine sumTo_congr m (fun i hi => ?_)
    unfold turnedZ
    rw [if_pos (by omega)]
    congr 1
    omega
  have h3 : sumTo (fun t => turnedZ z (k + m) k (m + t)) k = sumTo z k := by
    refine sumTo_congr k (fun i hi => ?_)
    unfold turnedZ
    rw [if_neg (by omega)]
    congr 1
    omega
  rw [h2, h3]
  omega
end Go.Proofs.Ytncbieaobadekaa
