import Derived.Test.YtpabplnmjkjbnabZa
import Derived.ArgAppend
import Derived.Deep.Onto
namespace Go.Proofs.Ytpabplnmjkjbnab
open Go.RowKit
set_option maxRecDepth 4000
end Go.Proofs.Ytpabplnmjkjbnab

namespace Go.Proofs.Ytpabplnmjkjbnab
open Go.RowKit
set_option maxRecDepth 4000
theorem TW : ∀ r : Nat, r < 9 → wrap64 ((wrap64 ((r : Int) * ((r : Int) + 1))).tdiv 2) = (Pr.T r : Nat) := by decide +kernel
theorem T_small : ∀ r : Nat, r < 9 → Pr.T r ≤ 36 := by decide
end Go.Proofs.Ytpabplnmjkjbnab

namespace Go.Proofs.Ytpabplnmjkjbnab
open Go.RowKit
set_option maxRecDepth 4000
def dist (X Y : List Int) (k : Nat) : Int := ((X.getD k 0 - Y.getD k 0).natAbs : Nat)
def sumD (X Y : List Int) : Nat → Int
  | 0 => 0
  | k + 1 => sumD X Y k + dist X Y k
/-- Neighbours: no number differs by more than 1, and two differ. -/
def nearB (X Y : List Int) : Bool := decide (dist X Y 0 ≤ 1 ∧ dist X Y 1 ≤ 1 ∧ dist X Y 2 ≤ 1 ∧ sumD X Y 3 = 2)
def cntD (X Y : List Int) (v : Int) : Nat → Int
  | 0 => 0
  | k + 1 => cntD X Y v k + if Y.getD k 0 - X.getD k 0 = v then 1 else 0
theorem near_cnt (a b c d e f : Int) (h : a + b + c = d + e + f) :
    nearB [a, b, c] [d, e, f] = decide (cntD [a, b, c] [d, e, f] 1 3 = 1 ∧ cntD [a, b, c] [d, e, f] (-1) 3 = 1 ∧ cntD [a, b, c] [d, e, f] 0 3 = 1) := by
  simp only [nearB, cntD, sumD, dist, List.getD_cons_zero, List.getD_cons_succ]
  rw [Bool.eq_iff_iff]
  simp only [decide_eq_true_eq]
  omega
theorem near_far (X Y : List Int) (k : Nat) (hk : k < 3) (h : 1 < dist X Y k) : nearB X Y = false := by
  rcases (show k = 0 ∨ k = 1 ∨ k = 2 by omega) with rfl | rfl | rfl <;> simp [nearB] <;> omega
theorem small_getD {X : List Int} (h : ∀ x ∈ X, -100 ≤ x ∧ x ≤ 100) (k : Nat) : -100 ≤ X.getD k 0 ∧ X.getD k 0 ≤ 100 := by
  by_cases hk : k < X.length
  · simp only [List.getD, List.getElem?_eq_getElem hk, Option.getD_some]; exact h _ (List.getElem_mem hk)
  · simp [List.getD, List.getElem?_eq_none (Nat.le_of_not_lt hk)]
theorem cell3 (w : World) (a b c : Int) (t : TypeId) (k : Nat) (hk : k < 3) : (w.alloc (.cells #[.int .i64 a, .int .i64 b, .int .i64 c] t)).cell? ⟨w.heap.size, k, none⟩ = some (.int .i64 ([a, b, c].getD k 0)) := by
  rcases (show k = 0 ∨ k = 1 ∨ k = 2 by omega) with rfl | rfl | rfl <;> go_cell
theorem pt_small (n i : Nat) (h2 : n ≤ 8) (hi : i < 45) : ∀ x ∈ [(n : Int) - (Pr.R i : Nat), (Pr.R i : Int) - (Pr.C i : Nat), (Pr.C i : Nat)], -100 ≤ x ∧ x ≤ 100 := by
  have := Pr.RC_bd i hi
  intro x hx
  simp only [List.mem_cons, List.not_mem_nil, or_false] at hx
  rcases hx with rfl | rfl | rfl <;> omega
end Go.Proofs.Ytpabplnmjkjbnab

namespace Go.Proofs.Ytpabplnmjkjbnab
open Go.RowKit
set_option maxRecDepth 4000
def L3 (f : Nat → Nat → Bool) (i j m : Nat) : List (List Int) := ((List.range m).filter (fun (k : Nat) => decide (j < k) && (f i j && f i k && f j k))).map (fun (k : Nat) => [(i : Int), (j : Int), (k : Int)])
def L2 (f : Nat → Nat → Bool) (i N m : Nat) : List (List Int) := (List.range m).flatMap (fun j => if i < j then L3 f i j N else [])
def L1 (f : Nat → Nat → Bool) (N m : Nat) : List (List Int) := (List.range m).flatMap (fun i => L2 f i N N)
theorem L3_succ (f : Nat → Nat → Bool) (i j m : Nat) (h : j < m) : L3 f i j (m + 1) = L3 f i j m ++ (if f i j && f i m && f j m then [[(i : Int), (j : Int), (m : Int)]] else []) := by
  simp only [L3, List.range_succ, List.filter_append, List.map_append, List.filter_cons, List.filter_nil, decide_eq_true h, Bool.true_and]
  cases f i j && f i m && f j m <;> simp
theorem L3_start (f : Nat → Nat → Bool) (i j : Nat) : L3 f i j (j + 1) = [] := by
  simp only [L3, List.map_eq_nil_iff, List.filter_eq_nil_iff, List.mem_range]
  intro k hk
  simp only [Bool.and_eq_true, decide_eq_true_eq, not_and]
  omega
theorem L3_len (f : Nat → Nat → Bool) (i j m : Nat) : (L3 f i j m).length ≤ m := by
  simp only [L3, List.length_map]; exact Nat.le_trans (List.length_filter_le _ _) (by simp)
theorem L2_succ (f : Nat → Nat → Bool) (i N m : Nat) (h : i < m) : L2 f i N (m + 1) = L2 f i N m ++ L3 f i m N := by
  simp [L2, List.range_succ, List.flatMap_append, h]
theorem L2_start (f : Nat → Nat → Bool) (i N : Nat) : L2 f i N (i + 1) = [] := by
  simp only [L2, List.flatMap_eq_nil_iff, List.mem_range]
  intro j hj
  rw [if_neg (by omega)]
theorem L1_succ (f : Nat → Nat → Bool) (N m : Nat) : L1 f N (m + 1) = L1 f N m ++ L2 f m N N := by simp [L1, List.range_succ, List.flatMap_append]
theorem L2_len (f : Nat → Nat → Bool) (i N m : Nat) : (L2 f i N m).length ≤ m * N := by
  induction m with
  | zero => simp [L2]
  | succ m ih =>
    by_cases h : i < m
    · rw [L2_succ f i N m h, List.length_append]
      have := L3_len f i m N
      rw [Nat.succ_mul]; omega
    · have e : L2 f i N (m + 1) = L2 f i N m := by simp [L2, List.range_succ, List.flatMap_append, h]
      rw [e, Nat.succ_mul]; omega
theorem L1_len (f : Nat → Nat → Bool) (N m : Nat) : (L1 f N m).length ≤ m * (N * N) := by
  induction m with
  | zero => simp [L1]
  | succ m ih =>
    rw [L1_succ, List.length_append]
    have := L2_len f m N N
    rw [Nat.succ_mul]; omega
def nr (n i j : Nat) : Bool := nearB (pt n i) (pt n j)
end Go.Proofs.Ytpabplnmjkjbnab

namespace Go.Proofs.Ytpabplnmjkjbnab
open Go.RowKit
set_option maxRecDepth 4000
/-- The cells of a row, as the program lists them. -/
def cr (r m : Nat) : List (List Int) := (List.range m).flatMap (fun (q : Nat) => (if q < r then [[((Pr.T r + q : Nat) : Int), ((Pr.T r + q + 1 : Nat) : Int), ((Pr.T r + q + r + 2 : Nat) : Int)]] else []) ++ [[((Pr.T r + q : Nat) : Int), ((Pr.T r + q + r + 1 : Nat) : Int), ((Pr.T r + q + r + 2 : Nat) : Int)]])
def ci (m : Nat) : List (List Int) := (List.range m).flatMap (fun r => cr r (r + 1))
theorem cr_succ (r m : Nat) : cr r (m + 1) = cr r m ++ ((if m < r then [[((Pr.T r + m : Nat) : Int), ((Pr.T r + m + 1 : Nat) : Int), ((Pr.T r + m + r + 2 : Nat) : Int)]] else []) ++ [[((Pr.T r + m : Nat) : Int), ((Pr.T r + m + r + 1 : Nat) : Int), ((Pr.T r + m + r + 2 : Nat) : Int)]]) := by
  simp only [cr, List.range_succ, List.flatMap_append, List.flatMap_cons, List.flatMap_nil, List.append_nil]
theorem ci_succ (m : Nat) : ci (m + 1) = ci m ++ cr m (m + 1) := by simp [ci, List.range_succ, List.flatMap_append]
theorem cr_len (r m : Nat) : (cr r m).length ≤ 2 * m := by
  induction m with
  | zero => simp [cr]
  | succ m ih => rw [cr_succ]; by_cases h : m < r <;> simp [h] <;> omega
theorem ci_len (m : Nat) : (ci m).length ≤ 2 * m * (m + 1) := by
  induction m with
  | zero => simp [ci]
  | succ m ih =>
    have := cr_len m (m + 1)
    have e : 2 * m * (m + 1) + 2 * (m + 1) ≤ 2 * (m + 1) * (m + 1 + 1) := by
      have h1 : 2 * m * (m + 1) + 2 * (m + 1) = (2 * m + 2) * (m + 1) := by rw [Nat.add_mul]
      rw [h1, show 2 * m + 2 = 2 * (m + 1) by omega]
      exact Nat.mul_le_mul_left _ (by omega)
    rw [ci_succ, List.length_append]; omega
theorem ci_eq : ∀ n, n < 9 → 1 ≤ n → ci n = L1 (nr n) (Pr.cnt n) (Pr.cnt n) := by decide +kernel
end Go.Proofs.Ytpabplnmjkjbnab

namespace Go.Proofs.Ytpabplnmjkjbnab
open Go.RowKit
set_option maxRecDepth 4000
end Go.Proofs.Ytpabplnmjkjbnab

namespace Go.Proofs.Ytpabplnmjkjbnab
open Go.RowKit
set_option maxRecDepth 4000
set_option maxHeartbeats 1600000 in
theorem clone_three (x y z : Int) (g : Nat) (w : World) (hg : g < w.heap.size) (hr : Rd w (some ⟨g, 0, none⟩) g 0 [x, y, z]) :
    Calls Try.prog 37 #[.slice (some ⟨g, 0, none⟩) 3 3] w fun e w' => ∃ v, e = .returned v ∧ w'.ownsRow w.heap.size 3 1 v 3 ([x, y, z].map (Value.int .i64)) ∧ Below w.heap.size w w' := by
  go_enter Try.func37, Try.ntmps37
  go_wp2_with fail
  rw [Lib.run_eql_slice_nil _ 22 _ _ _ _ _ _ Try.underlying22]
  obtain ⟨i0, hi, hz0, hz1, hz2⟩ := info_parts intInfo
  have h0 := hr.2 0 (by simp)
  have h1 := hr.2 1 (by simp)
  have h2 := hr.2 2 (by simp)
  go_wp2_with (at_builtin; (refine wpList_append_grows _ rfl _ _ 22 rfl 3 i0 _ 1 8 Try.underlying22 hi hz0 hz1 hz2 rfl (by decide) (some ⟨w.heap.size, 0, none⟩) 0 0 [] rfl (by simp) rfl (by simp) ⟨g, 0, none⟩ 3 3 [.int .i64 x, .int .i64 y, .int .i64 z] rfl rfl ?_ ?_ (by omega) (by simp [maxLen]) (by omega) ?_))
  case refine_1 =>
    intro j u hj
    try rw [Addr.add_lit, Nat.zero_add]
    try refine (World.cell?_alloc_past _ _ _ hg).trans ?_
    match j, hj with
    | 0, hj => simp at hj; subst hj; simpa using h0.2
    | 1, hj => simp at hj; subst hj; simpa using h1.2
    | 2, hj => simp at hj; subst hj; simpa using h2.2
    | j + 3, hj => simp at hj
  case refine_2 => first | exact ⟨rfl, rfl, rfl⟩ | (intro u hu; simp only [List.mem_cons, List.not_mem_nil, or_false] at hu; rcases hu with rfl | rfl | rfl <;> rfl)
  case refine_3 =>
    intro v' w' ho hgr
    have hB : Below w.heap.size w w' := (balloc (Below.refl w.heap.size w) (.cells #[] 3)).grown hgr (by simp) (fun k hk => by cases hk)
    go_wp2_with fail
    go_ret
    exact ⟨_, rfl, ho.mono (by simp), hB⟩
end Go.Proofs.Ytpabplnmjkjbnab

namespace Go.Proofs.Ytpabplnmjkjbnab
open Go.RowKit
set_option maxRecDepth 4000
/-- Cells, three numbers each, that can be read. -/
def TRd (w : World) (a : Option Addr) (b : Nat) (xs : List Int) : Prop := ∀ j, j < xs.length → a = some ⟨b, 0, none⟩ ∧ w.cell? ⟨b, j, none⟩ = some (.int .i64 (xs.getD j 0))
theorem cells_shape {w : World} {base : Nat} {v : Value} {cs : List (List Int)} (h : CellsV w base v cs) : ∃ a n cap, v = .slice a n cap := by
  obtain ⟨vs, hvs, -, -⟩ := h
  rcases hvs.2 with ⟨h, -⟩ | ⟨g, cap, cur, h, -⟩
  · exact ⟨_, _, _, h⟩
  · exact ⟨_, _, _, h⟩
theorem ci_at : ∀ n, n < 9 → ∀ k, k < (ci n).length → (ci n).getD k [] = [(ci n).flatten.getD (k * 3) 0, (ci n).flatten.getD (k * 3 + 1) 0, (ci n).flatten.getD (k * 3 + 2) 0] := by decide +kernel
end Go.Proofs.Ytpabplnmjkjbnab

namespace Go.Proofs.Ytpabplnmjkjbnab
open Go.RowKit
set_option maxRecDepth 4000
/-- What a function does that answers a list of lists, and whether it succeeds. -/
def CGives (w : World) (cs : List (List Int)) (ok : Bool) (e : Ending) (w' : World) : Prop :=
  ∃ v, e = .returned (.tuple #[v, .bool ok]) ∧ CellsV w' w.heap.size v cs ∧ Below w.heap.size w w'
theorem cgives_none {w w' : World} (hb : Below w.heap.size w w') : CGives w [] false (.returned (.tuple #[.slice none 0 0, .bool false])) w' := ⟨_, rfl, cells_nil _ _, hb⟩
theorem Rd.drewN {w : World} {a : Option Addr} {b off : Nat} {xs : List Int} (h : Rd w a b off xs) (m : Nat) : Rd (w.drewN m) a b off xs := h.same ((Same.refl w).drewN m)
set_option maxHeartbeats 400000 in
theorem eqIntS_drew (xs : List Int) (a a' : Option Addr) (b off b' off' n n' cap cap' : Nat) (w : World) (hn : xs.length = n) (hn' : xs.length = n') (h : Rd w a b off xs) (h' : Rd w a' b' off' xs) :
    Calls Try.prog 8 #[.slice a n cap, .slice a' n' cap'] w fun e w' => e = .returned (.bool true) ∧ ∃ m, w' = w.drewN m := by
  subst hn hn'
  obtain ⟨hm, hc⟩ := h
  obtain ⟨_, hc'⟩ := h'
  unfold maxLen at hm
  have hne : ((xs.length : Int) != (xs.length : Int)) = false := by simp
  have HC := Lib.hid hc
  have HC' := Lib.hid hc'
  clear hc hc'
  go_enter Try.func8, Try.ntmps8
  go_wp2
  go_loopw [5] (fun v5 wr => ∃ k : Nat, k ≤ xs.length ∧ v5 = .int .i64 k ∧ ∃ m, wr = w.drewN m) (fun v5 _ => xs.length - (intOf v5).toNat)
  case atStart => exact ⟨0, Nat.zero_le _, rfl, 0, rfl⟩
  case round =>
    obtain ⟨k, hk, rfl, m, rfl⟩ := hrel
    by_cases hlt : k < xs.length
    · obtain ⟨ha, c⟩ := HC.out k hlt
      obtain ⟨ha', c'⟩ := HC'.out k hlt
      subst ha ha'
      have c1 : (w.drewN m).cell? ⟨b, off + k, none⟩ = some (.int .i64 (xs.getD k 0)) := c
      have c2 : (w.drewN m).cell? ⟨b', off' + k, none⟩ = some (.int .i64 (xs.getD k 0)) := c'
      have hi : (k : Int) < (xs.length : Int) := by omega
      have hne2 : (xs.getD k 0 != xs.getD k 0) = false := by simp
      obtain ⟨w0, hw0⟩ : ∃ w0, w0 = w.drewN m := ⟨_, rfl⟩
      rw [← hw0] at c1 c2 ⊢
      have HW := Lib.hid hw0
      clear c c' hw0
      go_wp2
      go_quiet (fail)
      go_wp2
      go_roundw
      case rel => exact ⟨k + 1, by omega, by go_num, _, by rw [HW.out, World.drewN_drewN]⟩
      case measure => simp [intOf]; omega
    · go_wp2
      go_ret
      exact ⟨rfl, m, rfl⟩
end Go.Proofs.Ytpabplnmjkjbnab

namespace Go.Proofs.Ytpabplnmjkjbnab
open Go.RowKit
set_option maxRecDepth 4000
end Go.Proofs.Ytpabplnmjkjbnab

namespace Go.Proofs.Ytpabplnmjkjbnab
open Go.RowKit
set_option maxRecDepth 4000
/-- Whether a number is in a list. -/
def hasB (xs : List Int) (v : Int) : Bool := decide (v ∈ xs)
theorem hasB_step (xs : List Int) (v : Int) (k : Nat) (hk : k < xs.length) (h : hasB (xs.take k) v = false) :
    (((xs.getD k 0 == v) = true → hasB xs v = true) ∧ ((xs.getD k 0 == v) = false → hasB (xs.take (k + 1)) v = false)) := by
  have e : xs.take (k + 1) = xs.take k ++ [xs.getD k 0] := by
    rw [List.take_add_one, List.getD_eq_getElem?_getD, List.getElem?_eq_getElem hk]; rfl
  refine ⟨fun hx => ?_, fun hx => ?_⟩
  · simp only [beq_iff_eq] at hx
    simp only [hasB, decide_eq_true_eq]
    rw [← hx, List.getD_eq_getElem?_getD, List.getElem?_eq_getElem hk]
    exact List.getElem_mem hk
  · simp only [hasB, decide_eq_false_iff_not, e, List.mem_append, List.mem_singleton] at h ⊢
    simp only [beq_eq_false_iff_ne] at hx
    exact fun hh => hh.elim h (fun hh => hx hh.symm)
end Go.Proofs.Ytpabplnmjkjbnab

namespace Go.Proofs.Ytpabplnmjkjbnab
open Go.RowKit
set_option maxRecDepth 4000
/-- Whether the cell k has both points. -/
def withB (cs : List (List Int)) (i j : Int) (k : Nat) : Bool := hasB (cs.getD k []) i && hasB (cs.getD k []) j
theorem ci_bd (n : Nat) (h2 : n ≤ 8) : (ci n).length ≤ 1000 := by
  have hcl := ci_len n
  have : 2 * n * (n + 1) ≤ 16 * 9 := Nat.mul_le_mul (by omega) (by omega)
  omega
end Go.Proofs.Ytpabplnmjkjbnab
