import Derived.Test.YtelchpdlfedleaaVb
namespace Go.Proofs.Ytelchpdlfedleaa
open Go.RowKit
set_option maxRecDepth 4000
theorem valWalk_len (n : Int) (xs : List Int) (i j : Int) : (valWalk n xs i j).length ≤ 1000 := by
  unfold valWalk
  split
  · rename_i hok
    obtain ⟨n, rfl, hL, -⟩ := okW_yes hok
    have := wfrom_len xs n (-1) (inner (i, j))
    have := ci_bd n (labB_yes hL).2.1
    rw [ints_len]
    simp only [Int.toNat_natCast]
    omega
  · simp
end Go.Proofs.Ytelchpdlfedleaa
