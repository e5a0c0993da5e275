import Derived.Test.YtgbfpmfennmebaaR4
import Derived.Test.YtgbfpmfennmebaaZj
import Derived.Test.YtgbfpmfennmebaaDb
namespace Go.Proofs.Ytgbfpmfennmebaa
open Go.RowKit
set_option maxRecDepth 4000
end Go.Proofs.Ytgbfpmfennmebaa
