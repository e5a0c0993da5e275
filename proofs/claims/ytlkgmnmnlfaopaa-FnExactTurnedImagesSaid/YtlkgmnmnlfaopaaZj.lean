import Derived.Test.YtlkgmnmnlfaopaaZa
import Derived.Test.YtlkgmnmnlfaopaaZb
import Derived.Test.YtlkgmnmnlfaopaaZd
import Derived.Test.YtlkgmnmnlfaopaaZf
import Derived.Test.YtlkgmnmnlfaopaaZg
namespace Go.Proofs.Ytlkgmnmnlfaopaa
open Go.RowKit
set_option maxRecDepth 4000
theorem own_cap {w : World} {base e n cap : Nat} {a : Option Addr} {xs : List Value} (h : w.ownsRow base e 1 (.slice a n cap) n xs) : n ≤ cap := by
  rcases h.2 with ⟨hv, h0⟩ | ⟨g, cap', cur, hv, hg, hh, hc, hm, hs, ht⟩
  · omega
  · simp only [Value.slice.injEq] at hv
    omega
/-- The first m pairs of a list's point a with the points behind it. -/
def rowp (c : List Nat) (a m : Nat) : List (Int × Int) := (List.range m).map fun t => (((c.getD a 0 : Nat) : Int), ((c.getD (a + 1 + t) 0 : Nat) : Int))
def prs (c : List Nat) : Nat → List (Int × Int)
  | 0 => []
  | a + 1 => prs c a ++ rowp c a (c.length - (a + 1))
theorem rowp_succ (c : List Nat) (a m : Nat) : rowp c a (m + 1) = rowp c a m ++ [(((c.getD a 0 : Nat) : Int), ((c.getD (a + 1 + m) 0 : Nat) : Int))] := by
  simp [rowp, List.range_succ]
theorem rowp_len (c : List Nat) (a m : Nat) : (rowp c a m).length = m := by simp [rowp]
theorem prs_len (c : List Nat) : ∀ a, (prs c a).length ≤ a * c.length
  | 0 => by simp [prs]
  | a + 1 => by
    have := prs_len c a
    simp only [prs, List.length_append, rowp_len]
    rw [Nat.add_mul]; omega
/-- What the model lists of the doors among the pairs. -/
def outp (xs : List Int) (ps : List (Int × Int)) : List (List Int) := (ps.filter (drB xs)).map lst
theorem outp_yes (xs : List Int) (ps : List (Int × Int)) (i j : Int) (h : doorB xs i j = true) : outp xs (ps ++ [(i, j)]) = outp xs ps ++ [[i, j]] := by
  simp [outp, drB, h, lst]
theorem outp_no (xs : List Int) (ps : List (Int × Int)) (i j : Int) (h : doorB xs i j = false) : outp xs (ps ++ [(i, j)]) = outp xs ps := by
  simp [outp, drB, h]
theorem outp_len (xs : List Int) (ps : List (Int × Int)) : (outp xs ps).length ≤ ps.length := by
  simp only [outp, List.length_map]; exact List.length_filter_le _ _
end Go.Proofs.Ytlkgmnmnlfaopaa

namespace Go.Proofs.Ytlkgmnmnlfaopaa
open Go.RowKit
set_option maxRecDepth 4000
theorem cells_keep {w w' : World} {base : Nat} {v : Value} {cs : List (List Int)} (h : CellsV w base v cs) (hk : ∀ k, base ≤ k → w'.heap[k]? = w.heap[k]?) : CellsV w' base v cs := by
  obtain ⟨vs, h1, h2, h3⟩ := h
  exact ⟨vs, own_keep h1 (fun k hk' => hk k (h1.lt k hk').1), fun i hi => own_keep (h2 i hi) (fun k hk' => hk k ((h2 i hi).lt k hk').1), h3⟩
end Go.Proofs.Ytlkgmnmnlfaopaa

namespace Go.Proofs.Ytlkgmnmnlfaopaa
open Go.RowKit
set_option maxRecDepth 4000
theorem not_op {ops : Array Oper} {rest : List Oper} {o : Oper} {a : Act} {w : World} {Q : Exit → Act → World → Prop} (hgd : o.guard = none) (x : Operand) (ho : o.op = .unOp .not 4 x) (b : Bool) (hx : a.eval x = .bool b)
    (h : wpList Try.prog ops Q rest (a.put o.dst (.bool !b)) w) : wpList Try.prog ops Q (o :: rest) a w := by
  refine wpList_plain hgd fun K hK => ?_
  have e : (execOp a.eval o).run Try.prog w = .ok (.value (.bool !b)) w := by
    unfold execOp
    simp only [ho, hx]
    rfl
  unfold Oper.wp
  rw [e]
  exact hK _ _ h
theorem move_op {ops : Array Oper} {rest : List Oper} {o : Oper} {a : Act} {w : World} {Q : Exit → Act → World → Prop} (hgd : o.guard = none) (x : Operand) (ho : o.op = .move x)
    (h : wpList Try.prog ops Q rest (a.put o.dst (a.eval x)) w) : wpList Try.prog ops Q (o :: rest) a w := by
  refine wpList_plain hgd fun K hK => ?_
  have e : (execOp a.eval o).run Try.prog w = .ok (.value (a.eval x)) w := by
    unfold execOp
    simp only [ho]
    rfl
  unfold Oper.wp
  rw [e]
  exact hK _ _ h
end Go.Proofs.Ytlkgmnmnlfaopaa

namespace Go.Proofs.Ytlkgmnmnlfaopaa
open Go.RowKit
set_option maxRecDepth 4000
theorem prs3 (n k : Nat) : prs (cl n k) (cl n k).length = cpairs n k := rfl
theorem spec_cell3 {w : World} {base : Nat} {a : Option Addr} {m cap n k : Nat} (h2 : n ≤ 8) (hc : CellsV w base (.slice a m cap) (ci n)) (hk : k < (ci n).length) :
    m = (ci n).length ∧ ∃ g ra rc rb, a = some ⟨g, 0, none⟩ ∧ w.cell? ⟨g, k, none⟩ = some (.slice ra 3 rc) ∧ Rd w ra rb 0 ((cl n k).map (fun (i : Nat) => (i : Int))) ∧ (ra = none ∨ rb < w.heap.size) ∧ 3 ≤ rc ∧ rc ≤ maxLen := by
  obtain ⟨hm, -, hrows⟩ := cells_row hc
  obtain ⟨g, ra, rc, rb, ha, -, hgl, c1, hx, hrd, hown, -⟩ := hrows k hk
  obtain ⟨-, hall⟩ := ci_cq n (by omega)
  obtain ⟨hrow, -⟩ := hall k hk
  rw [hrow] at c1 hrd hown
  have h3 : 3 ≤ rc := own_cap hown
  have hmx : rc ≤ maxLen := by
    rcases hown.2 with ⟨hv, h0⟩ | ⟨g', cap', cur, hv, hg, hh, hcc, hmm, -⟩
    · simp at h0
    · simp only [Value.slice.injEq] at hv
      omega
  exact ⟨hm, g, ra, rc, rb, ha, c1, hrd, hx.imp_right fun h => h.2.1, h3, hmx⟩
def outDoorsOfCell (n : Int) (xs : List Int) (k : Int) : List (List Int) := if okCell n xs k then outp xs (cpairs n.toNat k.toNat) else []
theorem outDoors_len (n : Int) (xs : List Int) (k : Int) : (outDoorsOfCell n xs k).length ≤ 100000 := by
  unfold outDoorsOfCell
  split
  · exact Nat.le_trans (outp_len _ _) (by simp [cpairs])
  · simp
theorem outp_row (xs : List Int) (ps : List (Int × Int)) (i : Nat) (hi : i < (outp xs ps).length) : ((outp xs ps).getD i []).length ≤ 1000 := by
  simp only [outp] at hi ⊢
  rw [List.getD_eq_getElem?_getD, List.getElem?_map, List.getElem?_eq_getElem (by simpa using hi)]
  simp [lst]
theorem outDoors_row (n : Int) (xs : List Int) (k : Int) : ∀ i, i < (outDoorsOfCell n xs k).length → ((outDoorsOfCell n xs k).getD i []).length ≤ 1000 := by
  intro i hi
  unfold outDoorsOfCell at hi ⊢
  split
  · rename_i h; rw [if_pos h] at hi; exact outp_row _ _ i hi
  · rename_i h; rw [if_neg h] at hi; simp at hi
end Go.Proofs.Ytlkgmnmnlfaopaa

namespace Go.Proofs.Ytlkgmnmnlfaopaa
open Go.RowKit
set_option maxRecDepth 4000
def be (n q : Nat) : Nat := if q < n then Pr.T q else if q < 2 * n then Pr.T n + (q - n) else Pr.T (3 * n - q) + (3 * n - q)
def bor (n m : Nat) : List Int := (List.range m).map (fun q => ((be n q : Nat) : Int))
theorem bor_succ (n m : Nat) : bor n (m + 1) = bor n m ++ [((be n m : Nat) : Int)] := by simp [bor, List.range_succ]
theorem bor_len (n m : Nat) : (bor n m).length = m := by simp [bor]
theorem be1 (n k : Nat) (h : k < n) : ((be n k : Nat) : Int) = (Pr.T ((n : Int) - ((n : Int) - (k : Int))).toNat : Nat) + 0 := by
  rw [show ((n : Int) - ((n : Int) - (k : Int))).toNat = k by omega]; simp [be, h]
theorem be1' (n k : Nat) (h : k < n) : ((be n (0 + k) : Nat) : Int) = (Pr.T ((n : Int) - ((n : Int) - (k : Int))).toNat : Nat) + 0 := by rw [Nat.zero_add]; exact be1 n k h
theorem be2 (n k : Nat) (h : k < n) : ((be n (n + k) : Nat) : Int) = (Pr.T ((n : Int) - 0).toNat : Nat) + (k : Int) := by
  rw [show ((n : Int) - 0).toNat = n by omega]; simp [be, show ¬ n + k < n by omega, show n + k < 2 * n by omega, show n + k - n = k by omega]
theorem be3 (n k : Nat) (h : k < n) : ((be n (2 * n + k) : Nat) : Int) = (Pr.T ((n : Int) - (k : Int)).toNat : Nat) + ((n : Int) - (k : Int)) := by
  rw [show ((n : Int) - (k : Int)).toNat = n - k by omega]; simp [be, show ¬ 2 * n + k < n by omega, show ¬ 2 * n + k < 2 * n by omega, show 3 * n - (2 * n + k) = n - k by omega]; omega
end Go.Proofs.Ytlkgmnmnlfaopaa

namespace Go.Proofs.Ytlkgmnmnlfaopaa
open Go.RowKit
set_option maxRecDepth 4000
/-- A block of three numbers. -/
def Trb (w : World) (A : Nat) (x y z : Int) : Prop := w.heap[A]? = some (.cells #[.int .i64 x, .int .i64 y, .int .i64 z] 79 (0, 0))
theorem Trb.c0 {w : World} {A : Nat} {x y z : Int} (h : Trb w A x y z) : w.cell? ⟨A, 0, none⟩ = some (.int .i64 x) := by rw [cell_of_row w A 0 _ _ (0, 0) h]; rfl
theorem Trb.c1 {w : World} {A : Nat} {x y z : Int} (h : Trb w A x y z) : w.cell? ⟨A, 1, none⟩ = some (.int .i64 y) := by rw [cell_of_row w A 1 _ _ (0, 0) h]; rfl
theorem Trb.c2 {w : World} {A : Nat} {x y z : Int} (h : Trb w A x y z) : w.cell? ⟨A, 2, none⟩ = some (.int .i64 z) := by rw [cell_of_row w A 2 _ _ (0, 0) h]; rfl
theorem Trb.fr {w : World} {A : Nat} {x y z : Int} (h : Trb w A x y z) (j : Nat) : w.frozen? ⟨A, j, none⟩ = false := frozen_of_row w A j _ _ h
theorem Trb.lt {w : World} {A : Nat} {x y z : Int} (h : Trb w A x y z) : A < w.heap.size := (Array.getElem?_eq_some_iff.1 h).1
theorem Trb.of {w w' : World} {A : Nat} {x y z : Int} (h : Trb w A x y z) (hb : w'.heap[A]? = w.heap[A]?) : Trb w' A x y z := hb.trans h
theorem Trb.s0 {w : World} {A : Nat} {x y z : Int} (h : Trb w A x y z) (u : Int) : Trb (w.setCell ⟨A, 0, none⟩ (.int .i64 u)) A u y z := by
  have := heap_setCell_same w A 0 _ _ (.int .i64 u) h; simpa [Trb] using this
theorem Trb.s1 {w : World} {A : Nat} {x y z : Int} (h : Trb w A x y z) (u : Int) : Trb (w.setCell ⟨A, 1, none⟩ (.int .i64 u)) A x u z := by
  have := heap_setCell_same w A 1 _ _ (.int .i64 u) h; simpa [Trb] using this
theorem Trb.s2 {w : World} {A : Nat} {x y z : Int} (h : Trb w A x y z) (u : Int) : Trb (w.setCell ⟨A, 2, none⟩ (.int .i64 u)) A x y u := by
  have := heap_setCell_same w A 2 _ _ (.int .i64 u) h; simpa [Trb] using this
theorem Trb.cast {w : World} {A : Nat} {x y z x' y' z' : Int} (h : Trb w A x y z) (e1 : x = x') (e2 : y = y') (e3 : z = z') : Trb w A x' y' z' := by subst e1 e2 e3; exact h
theorem own_set {w : World} {base e size n g A cap : Nat} {xs : List Value} (h : w.ownsRow base e size (.slice (some ⟨g, 0, none⟩) n cap) n xs) (hne : g ≠ A) (j : Nat) (u : Value) : (w.setCell ⟨A, j, none⟩ u).ownsRow base e size (.slice (some ⟨g, 0, none⟩) n cap) n xs := by
  obtain ⟨h1, h2⟩ := h
  refine ⟨h1, ?_⟩
  rcases h2 with h2 | ⟨g', cap', cur, hv, hg, hh, r⟩
  · exact .inl h2
  · simp only [Value.slice.injEq, Option.some.injEq, Addr.mk.injEq, and_true, true_and] at hv
    obtain ⟨rfl, rfl⟩ := hv
    exact .inr ⟨g, cap, cur, rfl, hg, by rw [Below.heap_setCell _ _ _ _ hne]; exact hh, r⟩
end Go.Proofs.Ytlkgmnmnlfaopaa

namespace Go.Proofs.Ytlkgmnmnlfaopaa
open Go.RowKit
set_option maxRecDepth 4000
theorem be_lt : ∀ n, n < 9 → ∀ q, q < 3 * n → be n q < Pr.cnt n := by decide +kernel
/-- A step of the border. -/
def bp (n k : Nat) : Int × Int := (((be n k : Nat) : Int), ((be n ((k + 1) % (3 * n)) : Nat) : Int))
def bps (n m : Nat) : List (Int × Int) := (List.range m).map (bp n)
theorem bps_succ (n m : Nat) : bps n (m + 1) = bps n m ++ [bp n m] := by simp [bps, List.range_succ]
theorem bps_len (n m : Nat) : (bps n m).length = m := by simp [bps]
theorem bor_at (n m k : Nat) (hk : k < m) : (bor n m).getD k 0 = ((be n k : Nat) : Int) := by
  simp [bor, List.getD, hk]
end Go.Proofs.Ytlkgmnmnlfaopaa

namespace Go.Proofs.Ytlkgmnmnlfaopaa
open Go.RowKit
set_option maxRecDepth 4000
def outBorderDoors (n : Int) (xs : List Int) : List (List Int) := if labB n xs then outp xs (bps n.toNat (3 * n.toNat)) else []
theorem outBorder_len (n : Int) (xs : List Int) : (outBorderDoors n xs).length ≤ 100000 := by
  unfold outBorderDoors
  cases hL : labB n xs
  · simp
  · obtain ⟨n, rfl⟩ := labB_nat hL
    obtain ⟨h1, h2, -, -⟩ := labB_yes hL
    have e := outp_len xs (bps n (3 * n))
    rw [bps_len] at e
    simp only [if_true, Int.toNat_natCast]
    omega
theorem outBorder_row (n : Int) (xs : List Int) : ∀ i, i < (outBorderDoors n xs).length → ((outBorderDoors n xs).getD i []).length ≤ 1000 := by
  intro i hi
  unfold outBorderDoors at hi ⊢
  split
  · rename_i h; rw [if_pos h] at hi; exact outp_row _ _ i hi
  · rename_i h; rw [if_neg h] at hi; simp at hi
end Go.Proofs.Ytlkgmnmnlfaopaa

namespace Go.Proofs.Ytlkgmnmnlfaopaa
open Go.RowKit
set_option maxRecDepth 4000
/-- The turns of the first k doors. -/
def tn (xs : List Int) (ds : List (Int × Int)) : Nat → Int
  | 0 => 0
  | k + 1 => tn xs ds k + (xs.getD (ds.getD k (0, 0)).2.toNat 0 - xs.getD (ds.getD k (0, 0)).1.toNat 0)
theorem pts_filter {m : Nat} {ps : List (Int × Int)} {f : Int × Int → Bool} (h : Pts m ps) : Pts m (ps.filter f) := by
  intro k hk
  have hm : (ps.filter f).getD k (0, 0) ∈ ps := by
    rw [List.getD_eq_getElem?_getD, List.getElem?_eq_getElem hk]
    exact (List.mem_filter.1 (List.getElem_mem hk)).1
  obtain ⟨i, hi, e⟩ := List.mem_iff_getElem.1 hm
  have := h i hi
  rw [List.getD_eq_getElem?_getD, List.getElem?_eq_getElem hi] at this
  simp only [Option.getD_some] at this
  rw [e] at this
  exact this
theorem bps_pts (n : Nat) (xs : List Int) (hL : labB n xs = true) : Pts xs.length (bps n (3 * n)) := by
  obtain ⟨h1, h2, hl, -⟩ := labB_yes hL
  intro t ht
  rw [bps_len] at ht
  refine ⟨be n t, be n ((t + 1) % (3 * n)), ?_, ?_, ?_⟩
  · simp [bps, bp, List.getD, ht]
  · have := be_lt n (by omega) t ht; omega
  · have := be_lt n (by omega) ((t + 1) % (3 * n)) (Nat.mod_lt _ (by omega)); omega
theorem tn_bd (xs : List Int) (ds : List (Int × Int)) (hA : allB 0 2 xs = true) (hp : Pts xs.length ds) : ∀ k, k ≤ ds.length → -(2 * (k : Int)) ≤ tn xs ds k ∧ tn xs ds k ≤ 2 * (k : Int)
  | 0, _ => by simp [tn]
  | k + 1, hk => by
    have ih := tn_bd xs ds hA hp k (by omega)
    obtain ⟨i, j, e, hi, hj⟩ := hp k (by omega)
    have a := allB_at hA i hi
    have b := allB_at hA j hj
    simp only [tn, e, Int.toNat_natCast]
    omega
def bds (n : Nat) (xs : List Int) : List (Int × Int) := (bps n (3 * n)).filter (drB xs)
theorem bds_len (n : Nat) (xs : List Int) : (bds n xs).length ≤ 3 * n := Nat.le_trans (List.length_filter_le _ _) (by rw [bps_len]; exact Nat.le_refl _)
def okTurnsOfBorder (n : Int) (xs : List Int) : Bool := labB n xs
def valTurnsOfBorder (n : Int) (xs : List Int) : Int := if labB n xs then tn xs (bds n.toNat xs) (bds n.toNat xs).length else 0
end Go.Proofs.Ytlkgmnmnlfaopaa
