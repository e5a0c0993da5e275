import Derived.Test.YtelchpdlfedleaaZe
import Derived.Test.YtelchpdlfedleaaZh
import Derived.Test.YtelchpdlfedleaaZa
namespace Go.Proofs.Ytelchpdlfedleaa
open Go.RowKit
set_option maxRecDepth 4000
theorem ci_bd (n : Nat) (h2 : n ≤ 8) : (ci n).length ≤ 1000 := by
  have hcl := ci_len n
  have : 2 * n * (n + 1) ≤ 16 * 9 := Nat.mul_le_mul (by omega) (by omega)
  omega
end Go.Proofs.Ytelchpdlfedleaa
