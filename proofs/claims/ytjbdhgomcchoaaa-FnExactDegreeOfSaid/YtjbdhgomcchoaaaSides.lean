import Derived.Test.YtjbdhgomcchoaaaBase
import Derived.Test.YtjbdhgomcchoaaaAp
namespace Go.Proofs.Ytjbdhgomcchoaaa
open Go.RowKit
theorem own_base {w : World} {base base' e size n : Nat} {v : Value} {xs : List Value} (h : w.ownsRow base e size v n xs) (hg : base' ≤ base) : w.ownsRow base' e size v n xs := ⟨h.1, by
  rcases h.2 with h | ⟨g, cap, cur, hv, hg', r⟩
  · exact .inl h
  · exact .inr ⟨g, cap, cur, hv, by omega, r⟩⟩
/-- The first k of the indices whose number is 0. -/
def zer (l : List Int) (k : Nat) : List Int := ((List.range k).filter (fun j => l.getD j 0 == 0)).map (fun (j : Nat) => (j : Int))
theorem zer_yes (l : List Int) (k : Nat) (h : l.getD k 0 = 0) : zer l (k + 1) = zer l k ++ [(k : Int)] := by
  have h' : l[k]?.getD 0 = 0 := h
  simp [zer, List.range_succ, List.filter_append, h']
theorem zer_no (l : List Int) (k : Nat) (h : ¬ l.getD k 0 = 0) : zer l (k + 1) = zer l k := by
  have h' : ¬ l[k]?.getD 0 = 0 := h
  simp [zer, List.range_succ, List.filter_append, h']
theorem zer_len (l : List Int) (k : Nat) : (zer l k).length ≤ k := by
  simp only [zer, List.length_map]; exact Nat.le_trans (List.length_filter_le _ _) (by simp)
end Go.Proofs.Ytjbdhgomcchoaaa
