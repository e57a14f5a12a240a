/- What the document's Wrong looks at, in the document's own order. -/
import Derived.Test.YthmbpoldjddheaaCfCheck
namespace Go.Proofs.Ythmbpoldjddheaa
open Go.ChangeShapes Go.WideShapes Go.ChangeAt Go.RowKit
/-- The close of the cycle ahead. -/
def clo (s : Nat → Int) (i : Nat) : Int := if i = 0 then 0 else s (i - 1)
/-- Do the four ticks of a cycle rise? -/
def cyB (p q r s : Nat → Int) (i : Nat) : Bool := decide (clo s i < p i) && (decide (p i < q i) && (decide (q i < r i) && (decide (r i < s i) && decide (s i ≤ 1000))))
end Go.Proofs.Ythmbpoldjddheaa
