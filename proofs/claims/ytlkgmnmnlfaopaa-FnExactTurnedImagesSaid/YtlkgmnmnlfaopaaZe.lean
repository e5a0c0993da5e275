import Derived.Test.YtlkgmnmnlfaopaaZa
import Derived.Test.YtlkgmnmnlfaopaaZb
import Derived.Test.YtlkgmnmnlfaopaaZd
namespace Go.Proofs.Ytlkgmnmnlfaopaa
open Go.RowKit
set_option maxRecDepth 4000
def L3 (f : Nat → Nat → Bool) (i j m : Nat) : List (List Int) := ((List.range m).filter (fun (k : Nat) => decide (j < k) && (f i j && f i k && f j k))).map (fun (k : Nat) => [(i : Int), (j : Int), (k : Int)])
def L2 (f : Nat → Nat → Bool) (i N m : Nat) : List (List Int) := (List.range m).flatMap (fun j => if i < j then L3 f i j N else [])
def L1 (f : Nat → Nat → Bool) (N m : Nat) : List (List Int) := (List.range m).flatMap (fun i => L2 f i N N)
theorem L3_succ (f : Nat → Nat → Bool) (i j m : Nat) (h : j < m) : L3 f i j (m + 1) = L3 f i j m ++ (if f i j && f i m && f j m then [[(i : Int), (j : Int), (m : Int)]] else []) := by
  simp only [L3, List.range_succ, List.filter_append, List.map_append, List.filter_cons, List.filter_nil, decide_eq_true h, Bool.true_and]
  cases f i j && f i m && f j m <;> simp
theorem L3_start (f : Nat → Nat → Bool) (i j : Nat) : L3 f i j (j + 1) = [] := by
  simp only [L3, List.map_eq_nil_iff, List.filter_eq_nil_iff, List.mem_range]
  intro k hk
  simp only [Bool.and_eq_true, decide_eq_true_eq, not_and]
  omega
theorem L3_len (f : Nat → Nat → Bool) (i j m : Nat) : (L3 f i j m).length ≤ m := by
  simp only [L3, List.length_map]; exact Nat.le_trans (List.length_filter_le _ _) (by simp)
theorem L2_succ (f : Nat → Nat → Bool) (i N m : Nat) (h : i < m) : L2 f i N (m + 1) = L2 f i N m ++ L3 f i m N := by
  simp [L2, List.range_succ, List.flatMap_append, h]
theorem L2_start (f : Nat → Nat → Bool) (i N : Nat) : L2 f i N (i + 1) = [] := by
  simp only [L2, List.flatMap_eq_nil_iff, List.mem_range]
  intro j hj
  rw [if_neg (by omega)]
theorem L1_succ (f : Nat → Nat → Bool) (N m : Nat) : L1 f N (m + 1) = L1 f N m ++ L2 f m N N := by simp [L1, List.range_succ, List.flatMap_append]
theorem L2_len (f : Nat → Nat → Bool) (i N m : Nat) : (L2 f i N m).length ≤ m * N := by
  induction m with
  | zero => simp [L2]
  | succ m ih =>
    by_cases h : i < m
    · rw [L2_succ f i N m h, List.length_append]
      have := L3_len f i m N
      rw [Nat.succ_mul]; omega
    · have e : L2 f i N (m + 1) = L2 f i N m := by simp [L2, List.range_succ, List.flatMap_append, h]
      rw [e, Nat.succ_mul]; omega
theorem L1_len (f : Nat → Nat → Bool) (N m : Nat) : (L1 f N m).length ≤ m * (N * N) := by
  induction m with
  | zero => simp [L1]
  | succ m ih =>
    rw [L1_succ, List.length_append]
    have := L2_len f m N N
    rw [Nat.succ_mul]; omega
def nr (n i j : Nat) : Bool := nearB (pt n i) (pt n j)
end Go.Proofs.Ytlkgmnmnlfaopaa

namespace Go.Proofs.Ytlkgmnmnlfaopaa
open Go.RowKit
set_option maxRecDepth 4000
/-- The cells of a row, as the program lists them. -/
def cr (r m : Nat) : List (List Int) := (List.range m).flatMap (fun (q : Nat) => (if q < r then [[((Pr.T r + q : Nat) : Int), ((Pr.T r + q + 1 : Nat) : Int), ((Pr.T r + q + r + 2 : Nat) : Int)]] else []) ++ [[((Pr.T r + q : Nat) : Int), ((Pr.T r + q + r + 1 : Nat) : Int), ((Pr.T r + q + r + 2 : Nat) : Int)]])
def ci (m : Nat) : List (List Int) := (List.range m).flatMap (fun r => cr r (r + 1))
theorem cr_succ (r m : Nat) : cr r (m + 1) = cr r m ++ ((if m < r then [[((Pr.T r + m : Nat) : Int), ((Pr.T r + m + 1 : Nat) : Int), ((Pr.T r + m + r + 2 : Nat) : Int)]] else []) ++ [[((Pr.T r + m : Nat) : Int), ((Pr.T r + m + r + 1 : Nat) : Int), ((Pr.T r + m + r + 2 : Nat) : Int)]]) := by
  simp only [cr, List.range_succ, List.flatMap_append, List.flatMap_cons, List.flatMap_nil, List.append_nil]
theorem ci_succ (m : Nat) : ci (m + 1) = ci m ++ cr m (m + 1) := by simp [ci, List.range_succ, List.flatMap_append]
theorem cr_len (r m : Nat) : (cr r m).length ≤ 2 * m := by
  induction m with
  | zero => simp [cr]
  | succ m ih => rw [cr_succ]; by_cases h : m < r <;> simp [h] <;> omega
theorem ci_len (m : Nat) : (ci m).length ≤ 2 * m * (m + 1) := by
  induction m with
  | zero => simp [ci]
  | succ m ih =>
    have := cr_len m (m + 1)
    have e : 2 * m * (m + 1) + 2 * (m + 1) ≤ 2 * (m + 1) * (m + 1 + 1) := by
      have h1 : 2 * m * (m + 1) + 2 * (m + 1) = (2 * m + 2) * (m + 1) := by rw [Nat.add_mul]
      rw [h1, show 2 * m + 2 = 2 * (m + 1) by omega]
      exact Nat.mul_le_mul_left _ (by omega)
    rw [ci_succ, List.length_append]; omega
theorem ci_eq : ∀ n, n < 9 → 1 ≤ n → ci n = L1 (nr n) (Pr.cnt n) (Pr.cnt n) := by decide +kernel
end Go.Proofs.Ytlkgmnmnlfaopaa

namespace Go.Proofs.Ytlkgmnmnlfaopaa
open Go.RowKit
set_option maxRecDepth 4000
end Go.Proofs.Ytlkgmnmnlfaopaa

namespace Go.Proofs.Ytlkgmnmnlfaopaa
open Go.RowKit
set_option maxRecDepth 4000
end Go.Proofs.Ytlkgmnmnlfaopaa

namespace Go.Proofs.Ytlkgmnmnlfaopaa
open Go.RowKit
set_option maxRecDepth 4000
theorem ci_at : ∀ n, n < 9 → ∀ k, k < (ci n).length → (ci n).getD k [] = [(ci n).flatten.getD (k * 3) 0, (ci n).flatten.getD (k * 3 + 1) 0, (ci n).flatten.getD (k * 3 + 2) 0] := by decide +kernel
end Go.Proofs.Ytlkgmnmnlfaopaa

namespace Go.Proofs.Ytlkgmnmnlfaopaa
open Go.RowKit
set_option maxRecDepth 4000
theorem ite_guard {c : Prop} [Decidable c] {a b : Prop} (h : if c then a else b) : if c then a else b := h
theorem lt_later {w w' : World} {b len : Nat} (hb0 : len = 0 ∨ b < w.heap.size) (hb : Below w.heap.size w w') : len = 0 ∨ b < w'.heap.size := hb0.imp_right fun h => Nat.lt_of_lt_of_le h hb.size
/-- The door between two points: their labels have the sum 1. -/
def doorB (xs : List Int) (i j : Int) : Bool := xs.getD i.toNat 0 + xs.getD j.toNat 0 == 1
theorem allB_at2 {xs : List Int} (h : allB 0 2 xs = true) (k : Nat) (hk : k < xs.length) : 0 ≤ xs.getD k 0 ∧ xs.getD k 0 ≤ 2 := allB_at h k hk
end Go.Proofs.Ytlkgmnmnlfaopaa

namespace Go.Proofs.Ytlkgmnmnlfaopaa
open Go.RowKit
set_option maxRecDepth 4000
end Go.Proofs.Ytlkgmnmnlfaopaa
