import Derived.Test.YtelchpdlfedleaaZj
import Derived.Test.YtelchpdlfedleaaZa
namespace Go.Proofs.Ytelchpdlfedleaa
open Go.RowKit
set_option maxRecDepth 4000
def outFullCells (n : Int) (xs : List Int) : List Int := if labB n xs then flt (fullB xs n.toNat) (ci n.toNat).length else []
theorem outFullCells_len (n : Int) (xs : List Int) : (outFullCells n xs).length ≤ 1000 := by
  unfold outFullCells
  cases hL : labB n xs
  · simp
  · obtain ⟨n, rfl⟩ := labB_nat hL
    obtain ⟨h1, h2, -, -⟩ := labB_yes hL
    have hnn64 : n * n ≤ 64 := Nat.mul_le_mul h2 h2
    obtain ⟨hlen, -⟩ := ci_cq n (by omega)
    have := flt_len (fullB xs n) (ci n).length
    simp only [if_true, Int.toNat_natCast]
    omega
end Go.Proofs.Ytelchpdlfedleaa
