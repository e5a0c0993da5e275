import Derived.Test.YtelchpdlfedleaaR5
namespace Go.Proofs.Ytelchpdlfedleaa
open Go.RowKit
set_option maxRecDepth 4000
end Go.Proofs.Ytelchpdlfedleaa
