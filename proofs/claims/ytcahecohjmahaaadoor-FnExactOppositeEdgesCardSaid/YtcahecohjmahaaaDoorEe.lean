import Derived.Test.YtcahecohjmahaaaDoorEc
namespace Go.Proofs.YtcahecohjmahaaaDoor
open Go.RowKit
set_option maxRecDepth 4000
theorem nb_eq : ∀ n : Nat, n < 5 → (apn (sqn n) (sqn n)).filter (fun p => nearS n p.1 p.2) = nbp n (sqn n) := by decide +kernel
theorem nb_pts : ∀ n : Nat, n < 5 → ((nbp n (sqn n)).all fun p => decide (0 ≤ p.1 ∧ p.1 < (sqn n : Nat) ∧ 0 ≤ p.2 ∧ p.2 < (sqn n : Nat))) = true := by decide +kernel
end Go.Proofs.YtcahecohjmahaaaDoor
