/- The document's layer 8: Scan. -/
import Derived.Test.YtbpaongnehgodaaDoorFrameScan
namespace Go.Proofs.YtbpaongnehgodaaDoor
open Go.ChangeShapes Go.WideShapes Go.ChangeAt Go.RowKit
end Go.Proofs.YtbpaongnehgodaaDoor
