import Derived.Test.YtcahecohjmahaaaDoorYk
namespace Go.Proofs.YtcahecohjmahaaaDoor
open Go.RowKit
set_option maxRecDepth 4000
/-- The first k numbers of g, and noughts behind them. -/
def zf (g : Nat → Int) (s k : Nat) : List Int := (List.range s).map fun i => if i < k then g i else 0
theorem zf_len (g : Nat → Int) (s k : Nat) : (zf g s k).length = s := by simp [zf]
theorem zf_at (g : Nat → Int) (s k i : Nat) : (zf g s k)[i]? = if i < s then some (if i < k then g i else 0) else none := by
  simp only [zf, List.getElem?_map]
  by_cases h : i < s
  · rw [List.getElem?_range h, if_pos h]; rfl
  · rw [List.getElem?_eq_none (by simpa using h), if_neg h]; rfl
theorem zf_zero (g : Nat → Int) (s : Nat) : zf g s 0 = List.replicate s 0 := by
  apply List.ext_getElem?
  intro i
  rw [zf_at, List.getElem?_replicate]
  simp
theorem zf_all (g : Nat → Int) (s : Nat) : zf g s s = (List.range s).map g := by
  apply List.ext_getElem?
  intro i
  rw [zf_at, List.getElem?_map]
  by_cases h : i < s
  · rw [if_pos h, if_pos h, List.getElem?_range h]; rfl
  · rw [if_neg h, List.getElem?_eq_none (by simpa using h)]; rfl
theorem zf_set (g : Nat → Int) (s k : Nat) (hk : k < s) : (zf g s k).set k (g k) = zf g s (k + 1) := by
  apply List.ext_getElem?
  intro i
  rw [List.getElem?_set, zf_at, zf_at, zf_len]
  by_cases h1 : k = i
  · subst h1
    rw [if_pos rfl, if_pos hk, if_pos hk, if_pos (by omega)]
  · rw [if_neg h1]
    by_cases h2 : i < s
    · rw [if_pos h2, if_pos h2]
      by_cases h3 : i < k
      · rw [if_pos h3, if_pos (by omega)]
      · rw [if_neg h3, if_neg (by omega)]
    · rw [if_neg h2, if_neg h2]
end Go.Proofs.YtcahecohjmahaaaDoor
