import Derived.LoopN
import Derived.BigRegion
import Derived.RegionTactic
import Derived.Test.YtelchpdlfedleaaS38
import Derived.Test.YtelchpdlfedleaaS39
import Derived.Test.YtelchpdlfedleaaS40
import Derived.Test.YtelchpdlfedleaaS25
namespace Go.Proofs.Ytelchpdlfedleaa
open Go.RowKit
set_option maxRecDepth 4000
/-- A cell's points, as lists. -/
def ptL (n k j : Nat) : List Int := [pq n (cq n k j) 0, pq n (cq n k j) 1, pq n (cq n k j) 2]
def ptW (n k : Nat) (i c : Nat) : Int := pq n (cq n k i) c
theorem pt_ok (n k : Nat) : PtOk (ptW n k) ((List.range 3).map (ptL n k)) := ⟨by simp, fun i hi => by
  rcases (by omega : i = 0 ∨ i = 1 ∨ i = 2) with rfl | rfl | rfl
  · exact ⟨rfl, fun k hk => by rcases (by omega : k = 0 ∨ k = 1 ∨ k = 2) with rfl | rfl | rfl <;> rfl⟩
  · exact ⟨rfl, fun k hk => by rcases (by omega : k = 0 ∨ k = 1 ∨ k = 2) with rfl | rfl | rfl <;> rfl⟩
  · exact ⟨rfl, fun k hk => by rcases (by omega : k = 0 ∨ k = 1 ∨ k = 2) with rfl | rfl | rfl <;> rfl⟩⟩
theorem cq_lt (n k : Nat) (h : n ≤ 8) (hk : k < (ci n).length) (j : Nat) (hj : j < 3) : cq n k j < Pr.cnt n := by
  rcases (by omega : j = 0 ∨ j = 1 ∨ j = 2) with rfl | rfl | rfl
  · exact cl_lt n k h hk 0 (by omega)
  · exact cl_lt n k h hk 1 (by omega)
  · exact cl_lt n k h hk 2 (by omega)
theorem ptw_small (n k : Nat) (h2 : n ≤ 5) (hk : k < (ci n).length) (xs : List Int) (hg : gvB xs = true) : Small3 (wf xs) (ptW n k) := fun i hi =>
  ⟨(gvB_yes hg).2.1 i hi, fun c hc => by
    have := pq_bd n (cq n k i) c (by omega) (cq_lt n k (by omega) hk i hi) hc
    unfold ptW
    omega⟩
/-- Whether there is such a cell. -/
def okP (n c : Int) : Bool := decide (1 ≤ n ∧ n ≤ 5) && decide (0 ≤ c ∧ c < ((ci n.toNat).length : Nat))
theorem okP_yes {n c : Int} (h : okP n c = true) : ∃ n' c' : Nat, n = n' ∧ c = c' ∧ 1 ≤ n' ∧ n' ≤ 5 ∧ c' < (ci n').length := by
  simp only [okP, Bool.and_eq_true, decide_eq_true_eq] at h
  obtain ⟨⟨h1, h2⟩, h3, h4⟩ := h
  obtain ⟨n, rfl⟩ := Int.eq_ofNat_of_zero_le (show 0 ≤ n by omega)
  obtain ⟨c, rfl⟩ := Int.eq_ofNat_of_zero_le h3
  exact ⟨n, c, rfl, rfl, by omega, by omega, by simpa using h4⟩
theorem wtV_size (xs : List Int) : (wtV xs).size = 3 := by
  unfold wtV
  split <;> rfl
theorem wtV_one (xs : List Int) : (wtV xs).all (·.oneCell') = true := by
  unfold wtV
  split
  · exact spA3_one _ _ _
  · exact zspot_one
end Go.Proofs.Ytelchpdlfedleaa
