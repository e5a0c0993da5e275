import Derived.Test.YtelchpdlfedleaaR4
import Derived.Test.YtelchpdlfedleaaZj
import Derived.Test.YtelchpdlfedleaaDb
namespace Go.Proofs.Ytelchpdlfedleaa
open Go.RowKit
set_option maxRecDepth 4000
end Go.Proofs.Ytelchpdlfedleaa
