import Derived.Test.YtjbdhgomcchoaaaSl
namespace Go.Proofs.Ytjbdhgomcchoaaa
open Go.RowKit
/-- The numbers below k of which f says yes. -/
def flt (f : Nat → Bool) (k : Nat) : List Int := ((List.range k).filter f).map (fun (j : Nat) => (j : Int))
theorem flt_yes (f : Nat → Bool) (k : Nat) (h : f k = true) : flt f (k + 1) = flt f k ++ [(k : Int)] := by
  simp [flt, List.range_succ, List.filter_append, h]
theorem flt_no (f : Nat → Bool) (k : Nat) (h : f k = false) : flt f (k + 1) = flt f k := by
  simp [flt, List.range_succ, List.filter_append, h]
theorem flt_len (f : Nat → Bool) (k : Nat) : (flt f k).length ≤ k := by
  simp only [flt, List.length_map]; exact Nat.le_trans (List.length_filter_le _ _) (by simp)
end Go.Proofs.Ytjbdhgomcchoaaa
