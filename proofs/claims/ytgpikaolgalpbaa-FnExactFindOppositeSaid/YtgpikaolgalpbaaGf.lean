import Derived.Test.YtgpikaolgalpbaaGe
import Derived.Test.YtgpikaolgalpbaaYj
namespace Go.Proofs.Ytgpikaolgalpbaa
open Go.RowKit
set_option maxRecDepth 4000
/-- The pairs of a row of three points. -/
def prs (r : List Int) : List (Int × Int) := [(r.getD 0 0, r.getD 1 0), (r.getD 0 0, r.getD 2 0), (r.getD 1 0, r.getD 2 0)]
theorem map_getD (cs : List (List Int)) : (List.range cs.length).map (fun q => cs.getD q []) = cs := by
  apply List.ext_getElem?
  intro i
  rw [List.getElem?_map]
  by_cases h : i < cs.length
  · rw [List.getElem?_range h, List.getElem?_eq_getElem h]
    simp [h]
  · rw [List.getElem?_eq_none (by simpa using h), List.getElem?_eq_none (by omega)]; rfl
theorem both_count (cs : List (List Int)) (p : Int × Int) : (gBoth cs.length (cpr cs) p).length = cs.countP (fun r => decide (p ∈ prs r)) := by
  have e : (fun q => decide (p ∈ cpr cs q)) = ((fun r => decide (p ∈ prs r)) ∘ fun q => cs.getD q []) := rfl
  rw [gBoth, ← List.countP_eq_length_filter, e, ← List.countP_map, map_getD]
/-- Cells in order, no pair in more than two, by looking at all. -/
def triB (cs : List (List Int)) (m : Nat) : Bool := cs.all fun r => decide (r = [(((r.getD 0 0).toNat : Nat) : Int), (((r.getD 1 0).toNat : Nat) : Int), (((r.getD 2 0).toNat : Nat) : Int)] ∧ (r.getD 0 0).toNat < (r.getD 1 0).toNat ∧ (r.getD 1 0).toNat < (r.getD 2 0).toNat ∧ (r.getD 2 0).toNat < m)
def twoB (cs : List (List Int)) : Bool := cs.all fun r => (prs r).all fun p => decide (cs.countP (fun r => decide (p ∈ prs r)) ≤ 2)
def oneB (cs : List (List Int)) (ps : List (Int × Int)) : Bool := ps.all fun p => decide (cs.countP (fun r => decide (inner p ∈ prs r)) = 1 ∧ p.1 ≠ p.2)
theorem getD_mem {α : Type} (cs : List α) (z : α) (k : Nat) (h : k < cs.length) : cs.getD k z ∈ cs := find_mem cs z k h
theorem tri_of {cs : List (List Int)} {m : Nat} (h : triB cs m = true) : Tri cs m := fun k hk => by
  have e := List.all_eq_true.1 h _ (getD_mem cs [] k hk)
  simp only [decide_eq_true_eq] at e
  exact ⟨_, _, _, e⟩
theorem two_of {cs : List (List Int)} (h : twoB cs = true) : ∀ k, k < cs.length → ∀ p ∈ cpr cs k, (gBoth cs.length (cpr cs) p).length ≤ 2 := fun k hk p hp => by
  have e := List.all_eq_true.1 (List.all_eq_true.1 h _ (getD_mem cs [] k hk)) p hp
  rw [both_count]
  simpa using e
theorem one_of {cs : List (List Int)} {ps : List (Int × Int)} (h : oneB cs ps = true) : ∀ p ∈ ps, (gBoth cs.length (cpr cs) (inner p)).length = 1 ∧ p.1 ≠ p.2 := fun p hp => by
  have e := List.all_eq_true.1 h p hp
  rw [both_count]
  simpa using e
theorem sq_tri : ∀ n, n < 5 → triB (sci n (sqn n)) (sqn n) = true := by decide +kernel
theorem sq_two : ∀ n, n < 5 → twoB (sci n (sqn n)) = true := by decide +kernel
theorem sq_one : ∀ n, n < 5 → oneB (sci n (sqn n)) (sqPs n) = true := by decide +kernel
end Go.Proofs.Ytgpikaolgalpbaa
