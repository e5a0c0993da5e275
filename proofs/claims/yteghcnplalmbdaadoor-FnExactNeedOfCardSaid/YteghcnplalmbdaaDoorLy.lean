import Derived.Test.YteghcnplalmbdaaDoorZa
import Derived.Shelf.Slices.Reverse
import Derived.Shelf.Slices.Clone
import Derived.Ground.Names2Prog
import Derived.Lib.OwnBridge
namespace Go.Proofs.YteghcnplalmbdaaDoor
open Go.RowKit
set_option maxRecDepth 4000
end Go.Proofs.YteghcnplalmbdaaDoor
