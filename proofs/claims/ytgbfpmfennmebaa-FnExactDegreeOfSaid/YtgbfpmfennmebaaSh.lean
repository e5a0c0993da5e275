import Derived.Test.YtgbfpmfennmebaaSg
namespace Go.Proofs.Ytgbfpmfennmebaa
open Go.RowKit
set_option maxRecDepth 4000
theorem cp_cq (n k t : Nat) : cp n k t = cq n k t := rfl
/-- The sign of a cell. -/
def signB (xs : List Int) (n k : Nat) : Int := if upS n (cl n k) then sgl 1 xs (cpairs n k) else -(sgl 1 xs (cpairs n k))
theorem sgl_step (e : Int) (xs : List Int) (ps : List (Int × Int)) (m i j : Nat) (hm : m < ps.length) (h : ps.getD m (0, 0) = ((i : Int), (j : Int))) : sgl e xs (ps.take (m + 1)) = if xs.getD j 0 < xs.getD i 0 then -(sgl e xs (ps.take m)) else sgl e xs (ps.take m) := by
  rw [List.take_add_one, List.getElem?_eq_getElem hm]
  rw [List.getD_eq_getElem?_getD, List.getElem?_eq_getElem hm] at h
  simp only [Option.getD_some] at h
  rw [h]
  exact sgl_snoc e xs (ps.take m) i j
theorem cpairs_pts (n k : Nat) (xs : List Int) (hL : labB n xs = true) (hk : k < (ci n).length) : Pts xs.length (cpairs n k) := by
  obtain ⟨h1, h2, hl, -⟩ := labB_yes hL
  obtain ⟨-, hall⟩ := ci_cq n (by omega)
  obtain ⟨-, -, -, -, hp, hq, hr⟩ := hall k hk
  intro t ht
  match t, ht with
  | 0, _ => exact ⟨cq n k 0, cq n k 1, rfl, by omega, by omega⟩
  | 1, _ => exact ⟨cq n k 0, cq n k 2, rfl, by omega, by omega⟩
  | 2, _ => exact ⟨cq n k 1, cq n k 2, rfl, by omega, by omega⟩
  | t + 3, ht => exact absurd ht (by simp [cpairs])
end Go.Proofs.Ytgbfpmfennmebaa
