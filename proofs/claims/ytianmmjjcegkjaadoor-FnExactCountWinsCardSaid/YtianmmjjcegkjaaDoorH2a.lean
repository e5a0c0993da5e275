import Derived.Test.YtianmmjjcegkjaaDoorH1
import Derived.Test.YtianmmjjcegkjaaDoorJb
import Derived.Test.YtianmmjjcegkjaaDoorLm
namespace Go.Proofs.YtianmmjjcegkjaaDoor
open Go.RowKit
set_option maxRecDepth 4000
/-- The first costs, as far as they are told. -/
def fi1 (n m s : Nat) (xs : List Int) (k : Nat) (x : Nat) : Nat := if x < k then (hNet n m s xs 1).ini x else 0
theorem fi1_zero (n m s : Nat) (xs : List Int) : frow (fi1 n m s xs 0) s = List.replicate s 0 := by
  apply List.ext_getElem?
  intro i
  rw [List.getElem?_replicate]
  simp only [frow, List.getElem?_map]
  by_cases h : i < s
  · rw [List.getElem?_range h, if_pos h]
    simp [fi1]
  · rw [List.getElem?_eq_none (by simpa using h), if_neg h]; rfl
theorem fi1_step (n m s : Nat) (xs : List Int) (k v : Nat) (h : (hNet n m s xs 1).ini k = v) : frow (fun x => if x = k then v else fi1 n m s xs k x) s = frow (fi1 n m s xs (k + 1)) s := by
  refine frow_congr fun x _ => ?_
  unfold fi1
  by_cases e : x = k
  · subst e
    rw [if_pos rfl, if_pos (by omega), h]
  · rw [if_neg e]
    by_cases hl : x < k
    · rw [if_pos hl, if_pos (by omega)]
    · rw [if_neg hl, if_neg (by omega)]
theorem st1_at (n m s : Nat) (xs : List Int) (k : Nat) : (hNet n m s xs 1).st k = decide (k < m) := by
  simp [hNet]
theorem op1_at (n m s : Nat) (xs : List Int) (k : Nat) : (hNet n m s xs 1).op k = (xs.getD k 0 != 2) := rfl
theorem cst1_at (n m s : Nat) (xs : List Int) (k : Nat) : (hNet n m s xs 1).cst k = if xs.getD k 0 = 0 then 1 else 0 := by
  show (if (xs.getD k 0 != 0) = true then 0 else 1) = _
  by_cases h : xs.getD k 0 = 0
  · have e : (xs.getD k 0 != 0) = false := by simpa using h
    rw [if_pos h, e]; rfl
  · have e : (xs.getD k 0 != 0) = true := by simpa using h
    rw [if_neg h, e]; rfl
theorem ini1_no (n m s : Nat) (xs : List Int) (k : Nat) (h : (decide (k < m) && (xs.getD k 0 != 2)) = false) : (hNet n m s xs 1).ini k = s + 1 := by
  rw [← st1_at n m s xs k, ← op1_at n m s xs k, Bool.and_eq_false_iff] at h
  simp only [Net.ini]
  rw [if_neg]
  · rfl
  · intro ⟨_, h1, h2⟩
    rcases h with h | h
    · rw [h1] at h; cases h
    · rw [h2] at h; cases h
theorem ini1_yes (n m s : Nat) (xs : List Int) (k : Nat) (hk : k < s) (h1 : decide (k < m) = true) (h2 : (xs.getD k 0 != 2) = true) : (hNet n m s xs 1).ini k = if xs.getD k 0 = 0 then 1 else 0 := by
  rw [← st1_at n m s xs k] at h1
  rw [← op1_at n m s xs k] at h2
  rw [← cst1_at n m s xs k]
  simp only [Net.ini]
  rw [if_pos ⟨hk, h1, h2⟩]
end Go.Proofs.YtianmmjjcegkjaaDoor
