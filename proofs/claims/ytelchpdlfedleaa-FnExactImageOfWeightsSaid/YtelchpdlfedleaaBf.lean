import Derived.Test.YtelchpdlfedleaaZj
namespace Go.Proofs.Ytelchpdlfedleaa
open Go.RowKit
set_option maxRecDepth 4000
end Go.Proofs.Ytelchpdlfedleaa
