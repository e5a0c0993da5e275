import Derived.BigQuiet
import Derived.Test.YtjohjiknngagiaaK13
namespace Go.Proofs.Ytjohjiknngagiaa
open Go.RowKit
set_option maxRecDepth 4000
theorem balloc2 (B : Nat) (w : World) (o : Obj) (h : B ≤ w.heap.size) : Below B w (w.alloc o) := (Below.refl B w).alloc h o
end Go.Proofs.Ytjohjiknngagiaa
