import Derived.Test.YtcahecohjmahaaaDoorYq
namespace Go.Proofs.YtcahecohjmahaaaDoor
open Go.RowKit
set_option maxRecDepth 4000
def plc (x : Int) : Int := if x > 0 then x - 1 else 1 - x
end Go.Proofs.YtcahecohjmahaaaDoor
