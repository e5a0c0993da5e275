import Derived.Test.YtncpnkcdjfohgaaDoorMb7
namespace Go.Proofs.YtncpnkcdjfohgaaDoor
open Go.RowKit
set_option maxRecDepth 4000
def OutFavouriteOf (w : World) (r0 : Int) (r1 : Bool) (e : Ending) (w' : World) : Prop := e = .returned (.tuple #[.int .i64 r0, .bool r1]) ∧ Below w.heap.size w w'
end Go.Proofs.YtncpnkcdjfohgaaDoor
