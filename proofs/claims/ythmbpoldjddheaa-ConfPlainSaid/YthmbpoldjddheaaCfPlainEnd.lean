/- ConfPlain. -/
import Derived.Test.YthmbpoldjddheaaCfLawPlain
import Derived.Test.YthmbpoldjddheaaCfRefPlain
namespace Go.Proofs.Ythmbpoldjddheaa
open Go.ChangeShapes Go.WideShapes Go.ChangeAt Go.RowKit
theorem confplain_any (a b d : Int) (w : World) : Calls Try.prog 9 #[.int .i64 a, .int .i64 b, .int .i64 d] w (Ret (.bool true) w) :=
  confplain_walk a b d w fun W => refplain_any a b d W
end Go.Proofs.Ythmbpoldjddheaa
