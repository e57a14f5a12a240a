/- Rows of amounts: what the share texts import. -/
import Derived.Test.YtncbieaobadekaaSort1
import Derived.Test.YtncbieaobadekaaSMoneySumV
namespace Go.Proofs.Ytncbieaobadekaa
end Go.Proofs.Ytncbieaobadekaa
