import Derived.Test.YtelchpdlfedleaaZj
namespace Go.Proofs.Ytelchpdlfedleaa
open Go.RowKit
set_option maxRecDepth 4000
/-- The neighbours of i behind it, below j, as pairs. -/
def rowN (n i j : Nat) : List (Int × Int) := ((List.range j).filter (fun (q : Nat) => decide (i < q) && nearB (pt n i) (pt n q))).map (fun (q : Nat) => ((i : Int), (q : Int)))
def allN (n : Nat) : Nat → List (Int × Int)
  | 0 => []
  | i + 1 => allN n i ++ rowN n i (Pr.cnt n)
theorem rowN_start (n i : Nat) : rowN n i (i + 1) = [] := by
  simp only [rowN, List.map_eq_nil_iff, List.filter_eq_nil_iff, List.mem_range]
  intro q hq
  simp; omega
theorem rowN_yes (n i j : Nat) (h : i < j) (hN : nearB (pt n i) (pt n j) = true) : rowN n i (j + 1) = rowN n i j ++ [((i : Int), (j : Int))] := by
  simp [rowN, List.range_succ, List.filter_append, h, hN]
theorem rowN_no (n i j : Nat) (hN : nearB (pt n i) (pt n j) = false) : rowN n i (j + 1) = rowN n i j := by
  simp [rowN, List.range_succ, List.filter_append, hN]
theorem rowN_len (n i j : Nat) : (rowN n i j).length ≤ j := by
  simp only [rowN, List.length_map]; exact Nat.le_trans (List.length_filter_le _ _) (by simp)
theorem allN_len (n : Nat) : ∀ i, (allN n i).length ≤ i * Pr.cnt n
  | 0 => by simp [allN]
  | i + 1 => by
    have := allN_len n i
    have := rowN_len n i (Pr.cnt n)
    simp only [allN, List.length_append, Nat.add_mul]; omega
theorem allN_mem (n : Nat) : ∀ i, i ≤ Pr.cnt n → ∀ p ∈ allN n i, ∃ x y : Nat, p = ((x : Int), (y : Int)) ∧ x < Pr.cnt n ∧ y < Pr.cnt n
  | 0, _ => by simp [allN]
  | i + 1, hi => by
    intro p hp
    simp only [allN, List.mem_append] at hp
    rcases hp with hp | hp
    · exact allN_mem n i (by omega) p hp
    · simp only [rowN, List.mem_map, List.mem_filter, List.mem_range] at hp
      obtain ⟨q, ⟨hq, -⟩, rfl⟩ := hp
      exact ⟨i, q, rfl, by omega, hq⟩
theorem pts_all (n : Nat) (m : Nat) (hm : Pr.cnt n ≤ m) : Pts m (allN n (Pr.cnt n)) := by
  intro k hk
  have := allN_mem n _ (Nat.le_refl _) ((allN n (Pr.cnt n)).getD k (0, 0)) (by
    rw [List.getD_eq_getElem?_getD, List.getElem?_eq_getElem hk]
    exact List.getElem_mem hk)
  obtain ⟨x, y, e, hx, hy⟩ := this
  exact ⟨x, y, e, by omega, by omega⟩
end Go.Proofs.Ytelchpdlfedleaa
