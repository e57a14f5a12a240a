/- What each plain proof text wants. -/
import Derived.Test.YtbpaongnehgodaaNBase
import Derived.WalkKit
import Derived.ProofKit
import Derived.OpenShut
import Derived.ChangeOld
import Derived.Below
import Derived.LaidMore
import Derived.Stop.Joined
import Derived.Lib.SmallJoins
namespace Go.Proofs.Ytbpaongnehgodaa
open Go.ChangeShapes Go.WideShapes Go.ChangeAt Go.WideElems Go.RowKit Go.Joins
theorem vOwn : ownKnob Try.prog.godebug = none := by kernel_rfl
theorem vCellsI : Try.prog.cellsOf 2 = 1 := by kernel_rfl
theorem vLaidOut : laidOutB Try.prog = true := by kernel_rfl
end Go.Proofs.Ytbpaongnehgodaa
