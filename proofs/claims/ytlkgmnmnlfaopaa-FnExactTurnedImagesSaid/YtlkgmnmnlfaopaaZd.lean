import Derived.Test.YtlkgmnmnlfaopaaZa
import Derived.Laws.CopyOwn
namespace Go.Proofs.Ytlkgmnmnlfaopaa
open Go.RowKit
set_option maxRecDepth 4000
theorem TW : ∀ r : Nat, r < 9 → wrap64 ((wrap64 ((r : Int) * ((r : Int) + 1))).tdiv 2) = (Pr.T r : Nat) := by decide +kernel
theorem T_small : ∀ r : Nat, r < 9 → Pr.T r ≤ 36 := by decide
set_option maxHeartbeats 400000 in
theorem meIndex_any (n x z : Int) (b cap : Nat) (h2 : n ≤ 8) (x0 : 0 ≤ x) (x1 : x ≤ n) (z0 : 0 ≤ z) (z1 : z ≤ 8) (w : World)
    (c0 : w.cell? ⟨b, 0, none⟩ = some (.int .i64 x)) (c2 : w.cell? ⟨b, 2, none⟩ = some (.int .i64 z)) :
    Calls Try.prog 95 #[.int .i64 n, .slice (some ⟨b, 0, none⟩) 3 cap] w fun e w' => e = .returned (.int .i64 ((Pr.T (n - x).toNat : Nat) + z)) ∧ w = w' := by
  have hT := TW (n - x).toNat (by omega)
  have hS := T_small (n - x).toNat (by omega)
  rw [Int.toNat_of_nonneg (by omega)] at hT
  have HT := Lib.hid hT
  have HS := Lib.hid hS
  clear hT hS
  go_enter Try.func95, Try.ntmps95
  go_wp2
  go_ret
  refine ⟨ret_int ?_, rfl⟩
  rw [HT.out]
  have := HS.out
  exact IntWalk.wrap64_in _ ⟨by omega, by omega⟩
set_option maxHeartbeats 400000 in
theorem indexOf_any (n x y z : Int) (h2 : n ≤ 8) (x0 : 0 ≤ x) (x1 : x ≤ n) (z0 : 0 ≤ z) (z1 : z ≤ 8) (w : World) :
    Calls Try.prog 116 #[.agg #[.int .i64 n], .agg #[.int .i64 x, .int .i64 y, .int .i64 z]] w fun e w' => e = .returned (.int .i64 ((Pr.T (n - x).toNat : Nat) + z)) ∧ Below w.heap.size w w' := by
  have hT := TW (n - x).toNat (by omega)
  have hS := T_small (n - x).toNat (by omega)
  rw [Int.toNat_of_nonneg (by omega)] at hT
  have HT := Lib.hid hT
  have HS := Lib.hid hS
  clear hT hS
  go_enter Try.func116, Try.ntmps116
  go_wp2
  go_ret
  refine ⟨ret_int ?_, by go_grown⟩
  rw [HT.out]
  have := HS.out
  exact IntWalk.wrap64_in _ ⟨by omega, by omega⟩
end Go.Proofs.Ytlkgmnmnlfaopaa

namespace Go.Proofs.Ytlkgmnmnlfaopaa
open Go.RowKit
set_option maxRecDepth 4000
end Go.Proofs.Ytlkgmnmnlfaopaa

namespace Go.Proofs.Ytlkgmnmnlfaopaa
open Go.RowKit
set_option maxRecDepth 4000
def dist (X Y : List Int) (k : Nat) : Int := ((X.getD k 0 - Y.getD k 0).natAbs : Nat)
def sumD (X Y : List Int) : Nat → Int
  | 0 => 0
  | k + 1 => sumD X Y k + dist X Y k
/-- Neighbours: no number differs by more than 1, and two differ. -/
def nearB (X Y : List Int) : Bool := decide (dist X Y 0 ≤ 1 ∧ dist X Y 1 ≤ 1 ∧ dist X Y 2 ≤ 1 ∧ sumD X Y 3 = 2)
def cntD (X Y : List Int) (v : Int) : Nat → Int
  | 0 => 0
  | k + 1 => cntD X Y v k + if Y.getD k 0 - X.getD k 0 = v then 1 else 0
theorem near_cnt (a b c d e f : Int) (h : a + b + c = d + e + f) :
    nearB [a, b, c] [d, e, f] = decide (cntD [a, b, c] [d, e, f] 1 3 = 1 ∧ cntD [a, b, c] [d, e, f] (-1) 3 = 1 ∧ cntD [a, b, c] [d, e, f] 0 3 = 1) := by
  simp only [nearB, cntD, sumD, dist, List.getD_cons_zero, List.getD_cons_succ]
  rw [Bool.eq_iff_iff]
  simp only [decide_eq_true_eq]
  omega
theorem near_far (X Y : List Int) (k : Nat) (hk : k < 3) (h : 1 < dist X Y k) : nearB X Y = false := by
  rcases (show k = 0 ∨ k = 1 ∨ k = 2 by omega) with rfl | rfl | rfl <;> simp [nearB] <;> omega
theorem small_getD {X : List Int} (h : ∀ x ∈ X, -100 ≤ x ∧ x ≤ 100) (k : Nat) : -100 ≤ X.getD k 0 ∧ X.getD k 0 ≤ 100 := by
  by_cases hk : k < X.length
  · simp only [List.getD, List.getElem?_eq_getElem hk, Option.getD_some]; exact h _ (List.getElem_mem hk)
  · simp [List.getD, List.getElem?_eq_none (Nat.le_of_not_lt hk)]
theorem cell3 (w : World) (a b c : Int) (t : TypeId) (k : Nat) (hk : k < 3) : (w.alloc (.cells #[.int .i64 a, .int .i64 b, .int .i64 c] t)).cell? ⟨w.heap.size, k, none⟩ = some (.int .i64 ([a, b, c].getD k 0)) := by
  rcases (show k = 0 ∨ k = 1 ∨ k = 2 by omega) with rfl | rfl | rfl <;> go_cell
theorem pt_small (n i : Nat) (h2 : n ≤ 8) (hi : i < 45) : ∀ x ∈ [(n : Int) - (Pr.R i : Nat), (Pr.R i : Int) - (Pr.C i : Nat), (Pr.C i : Nat)], -100 ≤ x ∧ x ≤ 100 := by
  have := Pr.RC_bd i hi
  intro x hx
  simp only [List.mem_cons, List.not_mem_nil, or_false] at hx
  rcases hx with rfl | rfl | rfl <;> omega
end Go.Proofs.Ytlkgmnmnlfaopaa

namespace Go.Proofs.Ytlkgmnmnlfaopaa
open Go.RowKit
set_option maxRecDepth 4000
/-- Labels as the program keeps them: the side, the labels, noughts. -/
def labL (n : Nat) (xs : List Int) : List Value := .int .i64 n :: (xs.map (Value.int .i64) ++ List.replicate (45 - xs.length) (.int .i64 0))
theorem labL_len (n : Nat) (xs : List Int) (h : xs.length ≤ 45) : (labL n xs).length = 46 := by simp [labL]; omega
def zeroA : Array Value := (List.replicate 46 (Value.int .i64 0)).toArray
def lab0 (n : Int) : Array Value := (Value.int .i64 n :: List.replicate 45 (Value.int .i64 0)).toArray
theorem zeroA_size : zeroA.size = 46 := by simp [zeroA]
theorem lab0_size (n : Int) : (lab0 n).size = 46 := by simp [lab0]
theorem zeroA_one : zeroA.all (·.oneCell') = true := by decide +kernel
theorem lab0_one (n : Int) : (lab0 n).all (·.oneCell') = true := by
  simp only [lab0, List.all_toArray, List.all_cons, List.all_replicate]; rfl
section
variable {ops : Array Oper} {rest : List Oper} {o : Oper} {a : Act} {w : World} {Q : Exit → Act → World → Prop}
end
end Go.Proofs.Ytlkgmnmnlfaopaa

namespace Go.Proofs.Ytlkgmnmnlfaopaa
open Go.RowKit
set_option maxRecDepth 4000
theorem splice_lab (n : Nat) (xs : List Int) : splice (lab0 n).toList 1 (xs.map (Value.int .i64)) = labL n xs := by
  simp only [splice, lab0, labL, List.take_succ_cons, List.take_zero, List.length_map, List.toList_toArray, List.cons_append, List.nil_append]
  congr 1
  rw [show 1 + xs.length = xs.length + 1 by omega, List.drop_succ_cons, List.drop_replicate]
theorem labL_one (n : Nat) (xs : List Int) : (labL n xs).toArray.all (·.oneCell') = true := by
  simp only [labL, List.all_toArray, List.all_cons, List.all_append, List.all_map, List.all_replicate, Bool.and_eq_true]
  refine ⟨rfl, ?_, ?_⟩
  · simp only [List.all_eq_true]; intro x _; rfl
  · split <;> rfl
theorem labL_size (n : Nat) (xs : List Int) (h : xs.length ≤ 45) : (labL n xs).toArray.size = 46 := by rw [List.size_toArray]; exact labL_len n xs h
end Go.Proofs.Ytlkgmnmnlfaopaa

namespace Go.Proofs.Ytlkgmnmnlfaopaa
open Go.RowKit
set_option maxRecDepth 4000
/-- The list is labels for the side. -/
def labB (n : Int) (xs : List Int) : Bool := decide (1 ≤ n ∧ n ≤ 8 ∧ xs.length = Pr.cnt n.toNat ∧ allB 0 2 xs = true)
theorem labB_yes {n : Nat} {xs : List Int} (h : labB n xs = true) : 1 ≤ n ∧ n ≤ 8 ∧ xs.length = Pr.cnt n ∧ allB 0 2 xs = true := by
  simp only [labB, decide_eq_true_eq, Int.toNat_natCast] at h
  exact ⟨by omega, by omega, h.2.2⟩
theorem labB_no {n : Nat} {xs : List Int} (h1 : 1 ≤ n) (h2 : n ≤ 8) (h : labB n xs = false) : ¬ (xs.length = Pr.cnt n ∧ allB 0 2 xs = true) := by
  simp only [labB, decide_eq_false_iff_not, Int.toNat_natCast] at h
  exact fun hh => h ⟨by omega, by omega, hh⟩
end Go.Proofs.Ytlkgmnmnlfaopaa

namespace Go.Proofs.Ytlkgmnmnlfaopaa
open Go.RowKit
set_option maxRecDepth 4000
theorem labB_side {n : Int} {xs : List Int} (h : ¬ (1 ≤ n ∧ n ≤ 8)) : labB n xs = false := by
  simp only [labB, decide_eq_false_iff_not]
  exact fun hh => h ⟨hh.1, hh.2.1⟩
end Go.Proofs.Ytlkgmnmnlfaopaa
