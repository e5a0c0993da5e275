import Derived.Test.YtianmmjjcegkjaaDoorZa
import Derived.Shelf.Slices.Reverse
import Derived.Shelf.Slices.Clone
import Derived.Ground.Names2Prog
import Derived.Lib.OwnBridge
namespace Go.Proofs.YtianmmjjcegkjaaDoor
open Go.RowKit
set_option maxRecDepth 4000
end Go.Proofs.YtianmmjjcegkjaaDoor
