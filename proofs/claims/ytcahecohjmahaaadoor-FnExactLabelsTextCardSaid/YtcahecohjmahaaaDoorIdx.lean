import Derived.Test.YtcahecohjmahaaaDoorZa
namespace Go.Proofs.YtcahecohjmahaaaDoor
open Go.RowKit
set_option maxRecDepth 4000
theorem TW : ∀ r : Nat, r < 9 → wrap64 ((wrap64 ((r : Int) * ((r : Int) + 1))).tdiv 2) = (Pr.T r : Nat) := by decide +kernel
theorem T_small : ∀ r : Nat, r < 9 → Pr.T r ≤ 36 := by decide
end Go.Proofs.YtcahecohjmahaaaDoor
