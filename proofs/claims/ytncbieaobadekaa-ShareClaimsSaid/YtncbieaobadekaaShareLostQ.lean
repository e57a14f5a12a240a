/- Lost, told in one. -/
import Derived.Test.YtncbieaobadekaaShareLost2
namespace Go.Proofs.Ytncbieaobadekaa
open Go.ChangeShapes Go.WideShapes Go.ChangeAt Go.RowKit
/-- Lost, told in one. -/
def LostQ (z y : Nat → Int) (n m : Nat) (w : World) (e : Ending) (w' : World) : Prop := Below w.heap.size w w' ∧ ∃ (lo : Option Addr) (ln : Nat) (lc : Nat) (ev : Int), e = .returned (.tuple #[.slice lo ln lc, .int .i64 ev]) ∧
  ((Fits z y n m ∧ ln = n ∧ ev = 0 ∧ IntsAt w' lo n (fun i => z i - y i)) ∨ (¬ Fits z y n m ∧ ln = 0 ∧ ev = 1))
theorem lost_q (z y : Nat → Int) (n cap m cap' : Nat) (ao bo : Option Addr) (hn : n ≤ 1000000) (hm : m ≤ 1000000) (hz : ∀ i, i < n → -9223372036854775808 ≤ z i ∧ z i ≤ 9223372036854775807) (w : World) (h1 : IntsAt w ao n z) (h2 : IntsAt w bo m y) :
    Calls Try.prog 21 #[.slice ao n cap, .slice bo m cap'] w (LostQ z y n m w) := by
  refine (lost_any z y n cap m cap' ao bo hn hm hz w h1 h2).mono ?_
  rintro e w' ⟨hb, ⟨hf, g, hg, rfl, hr⟩ | ⟨hf, rfl⟩⟩
  · exact ⟨hb, _, n, n, 0, rfl, Or.inl ⟨hf, rfl, rfl, hr.ints⟩⟩
  · exact ⟨hb, none, 0, 0, 1, rfl, Or.inr ⟨hf, rfl, rfl⟩⟩
end Go.Proofs.Ytncbieaobadekaa
