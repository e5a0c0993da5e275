import Derived.Test.YtcahecohjmahaaaDoorYo
namespace Go.Proofs.YtcahecohjmahaaaDoor
open Go.RowKit
set_option maxRecDepth 4000
/-- The label one step on. -/
def nl (x : Int) : Int := if x = 1 then 2 else if x = 2 then -1 else if x = -1 then -2 else 1
/-- What a function does that answers labels made one by one, or nothing. -/
def outEach (g : Int → Int) (n : Int) (xs : List Int) : List Int := if sqB n xs then xs.map g else []
theorem outEach_len (g : Int → Int) (n : Int) (xs : List Int) : (outEach g n xs).length ≤ 1000 := by
  unfold outEach
  cases hL : sqB n xs
  · simp
  · obtain ⟨m, rfl, h1, h2, hl, -⟩ := sqB_nat hL
    have := sqn_le m h2
    simp; omega
theorem map_range (g : Int → Int) (xs : List Int) : (List.range xs.length).map (fun k => g (xs.getD k 0)) = xs.map g := by
  apply List.ext_getElem?
  intro i
  rw [List.getElem?_map, List.getElem?_map]
  by_cases h : i < xs.length
  · rw [List.getElem?_range h, List.getElem?_eq_getElem h]
    simp [List.getD, h]
  · rw [List.getElem?_eq_none (by simpa using h), List.getElem?_eq_none (by omega)]; rfl
end Go.Proofs.YtcahecohjmahaaaDoor
