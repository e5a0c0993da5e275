import Derived.Test.YtlkgmnmnlfaopaaZa
import Derived.Test.YtlkgmnmnlfaopaaZb
import Derived.Test.YtlkgmnmnlfaopaaZc
namespace Go.Proofs.Ytlkgmnmnlfaopaa
open Go.RowKit
set_option maxRecDepth 4000
theorem ret_int2 {a b c d : Int} (h : a = c) (k : b = d) : Ending.returned (.tuple #[.int .i64 a, .int .i64 b]) = .returned (.tuple #[.int .i64 c, .int .i64 d]) := by rw [h, k]
/-- The points of a square. -/
def sqc (n : Int) : Int := (2 * n + 1) * (2 * n + 1)
/-- The number of a point. -/
def oi (n x y : Int) : Int := (2 * n + 1) * (y + n) + x + n
def okSq (n i : Int) : Prop := 1 ≤ n ∧ n ≤ 4 ∧ 0 ≤ i ∧ i < sqc n
theorem four {n : Int} (h1 : 1 ≤ n) (h2 : n ≤ 4) : n = 1 ∨ n = 2 ∨ n = 3 ∨ n = 4 := by omega
theorem sqc_bd {n : Int} (h1 : 1 ≤ n) (h2 : n ≤ 4) : 9 ≤ sqc n ∧ sqc n ≤ 81 := by
  rcases four h1 h2 with rfl | rfl | rfl | rfl <;> simp [sqc]
theorem oi_bd {n x y : Int} (h1 : 1 ≤ n) (h2 : n ≤ 4) (x1 : -n ≤ x) (x2 : x ≤ n) (y1 : -n ≤ y) (y2 : y ≤ n) : 0 ≤ oi n x y ∧ oi n x y < sqc n := by
  rcases four h1 h2 with rfl | rfl | rfl | rfl <;> simp only [oi, sqc] <;> omega
end Go.Proofs.Ytlkgmnmnlfaopaa

namespace Go.Proofs.Ytlkgmnmnlfaopaa
open Go.RowKit
set_option maxRecDepth 4000
def ax (n i : Int) : Int := i % (2 * n + 1) - n
def ay (n i : Int) : Int := i / (2 * n + 1) - n
end Go.Proofs.Ytlkgmnmnlfaopaa

namespace Go.Proofs.Ytlkgmnmnlfaopaa
open Go.RowKit
set_option maxRecDepth 4000
/-- The border of a square: its points in order. -/
def bq (n q : Nat) : Int := if q < 2 * n then oi n ((q : Int) - n) (-(n : Int)) else if q < 4 * n then oi n n ((q : Int) - 2 * n - n) else if q < 6 * n then oi n ((n : Int) - ((q : Int) - 4 * n)) n else oi n (-(n : Int)) ((n : Int) - ((q : Int) - 6 * n))
def bol (n m : Nat) : List Int := (List.range m).map (bq n)
theorem bol_succ (n m : Nat) : bol n (m + 1) = bol n m ++ [bq n m] := by simp [bol, List.range_succ]
theorem bol_len (n m : Nat) : (bol n m).length = m := by simp [bol]
theorem bq1 (n k : Nat) (h : k < 2 * n) : bq n (0 + k) = oi n ((k : Int) - n) (-(n : Int)) := by
  simp only [bq, Nat.zero_add, if_pos h]
theorem bq2 (n k : Nat) (h : k < 2 * n) : bq n (2 * n + k) = oi n n ((k : Int) - n) := by
  simp only [bq, if_neg (show ¬ 2 * n + k < 2 * n by omega), if_pos (show 2 * n + k < 4 * n by omega)]
  congr 1; omega
theorem bq3 (n k : Nat) (h : k < 2 * n) : bq n (4 * n + k) = oi n ((n : Int) - k) n := by
  simp only [bq, if_neg (show ¬ 4 * n + k < 2 * n by omega), if_neg (show ¬ 4 * n + k < 4 * n by omega), if_pos (show 4 * n + k < 6 * n by omega)]
  congr 1; omega
theorem bq4 (n k : Nat) (h : k < 2 * n) : bq n (6 * n + k) = oi n (-(n : Int)) ((n : Int) - k) := by
  simp only [bq, if_neg (show ¬ 6 * n + k < 2 * n by omega), if_neg (show ¬ 6 * n + k < 4 * n by omega), if_neg (show ¬ 6 * n + k < 6 * n by omega)]
  congr 1; omega
end Go.Proofs.Ytlkgmnmnlfaopaa

namespace Go.Proofs.Ytlkgmnmnlfaopaa
open Go.RowKit
set_option maxRecDepth 4000
theorem bq1z (n k : Nat) (h : k < 2 * n) : bq n k = oi n ((k : Int) - n) (-(n : Int)) := by have := bq1 n k h; rwa [Nat.zero_add] at this
theorem own_lo {w : World} {base base' e size n : Nat} {v : Value} {xs : List Value} (h : w.ownsRow base e size v n xs) (hb : base' ≤ base) : w.ownsRow base' e size v n xs := ⟨h.1, by
  rcases h.2 with h | ⟨g, cap, cur, hv, hg', r⟩
  · exact .inl h
  · exact .inr ⟨g, cap, cur, hv, by omega, r⟩⟩
end Go.Proofs.Ytlkgmnmnlfaopaa

namespace Go.Proofs.Ytlkgmnmnlfaopaa
open Go.RowKit
set_option maxRecDepth 4000
/-- The first k rows, and empty lists behind them. -/
def rws (cs : List (List Int)) (k : Nat) : List (List Int) := (List.range cs.length).map fun i => if i < k then cs.getD i [] else []
theorem rws_len (cs : List (List Int)) (k : Nat) : (rws cs k).length = cs.length := by simp [rws]
theorem rws_at (cs : List (List Int)) (k i : Nat) : (rws cs k)[i]? = if i < cs.length then some (if i < k then cs.getD i [] else []) else none := by
  simp only [rws, List.getElem?_map]
  by_cases h : i < cs.length
  · rw [List.getElem?_range h, if_pos h]; rfl
  · rw [List.getElem?_eq_none (by simpa using h), if_neg h]; rfl
theorem rws_zero (cs : List (List Int)) : rws cs 0 = List.replicate cs.length [] := by
  apply List.ext_getElem?
  intro i
  rw [rws_at, List.getElem?_replicate]
  simp
theorem rws_all (cs : List (List Int)) : rws cs cs.length = cs := by
  apply List.ext_getElem?
  intro i
  rw [rws_at]
  by_cases h : i < cs.length
  · rw [if_pos h, if_pos h, List.getD_eq_getElem?_getD, List.getElem?_eq_getElem h]; rfl
  · rw [if_neg h, List.getElem?_eq_none (by omega)]
theorem rws_set (cs : List (List Int)) (k : Nat) (hk : k < cs.length) : (rws cs k).set k (cs.getD k []) = rws cs (k + 1) := by
  apply List.ext_getElem?
  intro i
  rw [List.getElem?_set, rws_at, rws_at, rws_len]
  by_cases h1 : k = i
  · subst h1
    rw [if_pos rfl, if_pos hk, if_pos hk, if_pos (by omega)]
  · rw [if_neg h1]
    by_cases h2 : i < cs.length
    · rw [if_pos h2, if_pos h2]
      by_cases h3 : i < k
      · rw [if_pos h3, if_pos (by omega)]
      · rw [if_neg h3, if_neg (by omega)]
    · rw [if_neg h2, if_neg h2]
/-- Cells are lists of three numbers. -/
def Thr (cs : List (List Int)) : Prop := ∀ k, k < cs.length → cs.getD k [] = [cs.flatten.getD (k * 3) 0, cs.flatten.getD (k * 3 + 1) 0, cs.flatten.getD (k * 3 + 2) 0]
end Go.Proofs.Ytlkgmnmnlfaopaa

namespace Go.Proofs.Ytlkgmnmnlfaopaa
open Go.RowKit
set_option maxRecDepth 4000
theorem made_pairs (m : Nat) : (madeCells (Value.agg #[.int .i64 0, .int .i64 0]).cells (m * 2)).toList = pfl (List.replicate m (0, 0)) := by
  have e : ∀ m, pfl (List.replicate m ((0 : Int), (0 : Int))) = List.replicate (m * 2) (Value.int .i64 0) := by
    intro m
    induction m with
    | zero => rfl
    | succ m ih =>
      rw [show (m + 1) * 2 = m * 2 + 1 + 1 by omega, List.replicate_succ, List.replicate_succ, List.replicate_succ, ← ih]
      rfl
  rw [e]
  apply List.ext_getElem?
  intro i
  simp only [madeCells, Value.cells, List.getElem?_replicate]
  by_cases h : i < m * 2
  · have h2 : i % 2 = 0 ∨ i % 2 = 1 := by omega
    rcases h2 with h2 | h2 <;> simp [h, h2]
  · simp [h]
theorem pfl_set (ps : List (Int × Int)) (x y : Int) : ∀ k, ((pfl ps).set (k * 2) (.int .i64 x)).set (k * 2 + 1) (.int .i64 y) = pfl (ps.set k (x, y)) := by
  induction ps with
  | nil => intro k; simp [pfl]
  | cons p ps ih =>
    intro k
    match k with
    | 0 => rfl
    | k + 1 =>
      have e := ih k
      rw [show (k + 1) * 2 = k * 2 + 2 by omega]
      simp only [pfl, List.flatMap_cons, List.set_cons_succ, List.cons_append, List.nil_append] at e ⊢
      rw [e]
theorem rem_nat (k m : Nat) : Int.tmod ((k : Int) + 1) ((m : Nat) : Int) = (((k + 1) % m : Nat) : Int) := by
  rw [show (k : Int) + 1 = ((k + 1 : Nat) : Int) by omega, Int.ofNat_tmod]
/-- A step along a list that comes round. -/
def al (xs : List Int) (k : Nat) : Int × Int := (xs.getD k 0, xs.getD ((k + 1) % xs.length) 0)
def als (xs : List Int) (m : Nat) : List (Int × Int) := (List.range m).map (al xs)
theorem als_succ (xs : List Int) (m : Nat) : als xs (m + 1) = als xs m ++ [al xs m] := by simp [als, List.range_succ]
theorem als_len (xs : List Int) (m : Nat) : (als xs m).length = m := by simp [als]
/-- The first k steps, and noughts behind them. -/
def alz (xs : List Int) (k : Nat) : List (Int × Int) := (List.range xs.length).map fun i => if i < k then al xs i else (0, 0)
theorem alz_len (xs : List Int) (k : Nat) : (alz xs k).length = xs.length := by simp [alz]
theorem alz_at (xs : List Int) (k i : Nat) : (alz xs k)[i]? = if i < xs.length then some (if i < k then al xs i else (0, 0)) else none := by
  simp only [alz, List.getElem?_map]
  by_cases h : i < xs.length
  · rw [List.getElem?_range h, if_pos h]; rfl
  · rw [List.getElem?_eq_none (by simpa using h), if_neg h]; rfl
theorem alz_zero (xs : List Int) : alz xs 0 = List.replicate xs.length (0, 0) := by
  apply List.ext_getElem?
  intro i
  rw [alz_at, List.getElem?_replicate]
  simp
theorem alz_all (xs : List Int) : alz xs xs.length = als xs xs.length := by
  apply List.ext_getElem?
  intro i
  rw [alz_at]
  simp only [als, List.getElem?_map]
  by_cases h : i < xs.length
  · rw [List.getElem?_range h, if_pos h, if_pos h]; rfl
  · rw [List.getElem?_eq_none (by simpa using h), if_neg h]; rfl
theorem alz_set (xs : List Int) (k : Nat) (hk : k < xs.length) : (alz xs k).set k (al xs k) = alz xs (k + 1) := by
  apply List.ext_getElem?
  intro i
  rw [List.getElem?_set, alz_at, alz_at, alz_len]
  by_cases h1 : k = i
  · subst h1
    rw [if_pos rfl, if_pos hk, if_pos hk, if_pos (by omega)]
  · rw [if_neg h1]
    by_cases h2 : i < xs.length
    · rw [if_pos h2, if_pos h2]
      by_cases h3 : i < k
      · rw [if_pos h3, if_pos (by omega)]
      · rw [if_neg h3, if_neg (by omega)]
    · rw [if_neg h2, if_neg h2]
/-- A function value that is asked for pairs: what it answers is told by d, in every world that keeps what is below. -/
def Asks (F : FuncId) (first caps : Array Value) (d : Int × Int → Bool) (w : World) (ps : List (Int × Int)) : Prop :=
  ∀ W, Below w.heap.size w W → ∀ k, k < ps.length → Calls Try.prog F (first.push (.agg #[.int .i64 (ps.getD k (0, 0)).1, .int .i64 (ps.getD k (0, 0)).2]) ++ caps) W fun e w' => e = .returned (.bool (d (ps.getD k (0, 0)))) ∧ Below W.heap.size W w'
theorem ff_yes (d : Int × Int → Bool) (ps : List (Int × Int)) (k : Nat) (hk : k < ps.length) (h : d (ps.getD k (0, 0)) = true) : (ps.take (k + 1)).filter d = (ps.take k).filter d ++ [ps.getD k (0, 0)] := by
  rw [List.take_add_one, List.filter_append, List.getElem?_eq_getElem hk]
  rw [List.getD_eq_getElem?_getD, List.getElem?_eq_getElem hk] at h ⊢
  simp only [Option.getD_some] at h
  simp [h]
theorem ff_no (d : Int × Int → Bool) (ps : List (Int × Int)) (k : Nat) (hk : k < ps.length) (h : d (ps.getD k (0, 0)) = false) : (ps.take (k + 1)).filter d = (ps.take k).filter d := by
  rw [List.take_add_one, List.filter_append, List.getElem?_eq_getElem hk]
  rw [List.getD_eq_getElem?_getD, List.getElem?_eq_getElem hk] at h
  simp only [Option.getD_some] at h
  simp [h]
theorem ff_len (d : Int × Int → Bool) (ps : List (Int × Int)) (k : Nat) : ((ps.take k).filter d).length ≤ ps.length :=
  Nat.le_trans (List.length_filter_le _ _) (by rw [List.length_take]; omega)
end Go.Proofs.Ytlkgmnmnlfaopaa

namespace Go.Proofs.Ytlkgmnmnlfaopaa
open Go.RowKit
set_option maxRecDepth 4000
theorem mix_store_blk {ops : Array Oper} {S : World → Prop} {Q : Exit → Act → World → Prop} {sole rest : List Nat} {a : Act} {w : World} {ty : TypeId} {n : Nat} (bk : Blk ty n) (i : Nat) (o : Oper) (hi : sole.contains i = true) (ho : ops[i]? = some o) (hgd : o.guard = none) (x y : Operand) (hop : o.op = .store ty x y) (d : Option Tmp) (hd : o.dst = d)
    (g : Nat) (cells old : Array Value) (hx : a.eval x = .pointer (some ⟨g, 0, none⟩)) (hy : a.eval y = .agg cells)
    (hg : w.heap[g]? = some (.cells old ty (0, 0))) (hold : old.size = n) (hc : cells.size = n) (h1 : cells.all (·.oneCell') = true) (B : Nat) (hB : B ≤ g)
    (h : ∀ w', w'.heap[g]? = some (.cells cells ty (0, 0)) → Below B w w' → (∀ k, k ≠ g → w'.heap[k]? = w.heap[k]?) → w'.heap.size = w.heap.size → S w' ∧ wpMix Try.prog ops S Q sole rest (a.put d undef) w') : wpMix Try.prog ops S Q sole (i :: rest) a w := by
  subst hd
  refine mix_sole i o hi ho (fun K' hK => ?_)
  rw [if_pos (by simp [Region.wanted, hgd])]
  refine wp_store_row _ x y hop g cells hx hy _ old hg (by rw [bk.size, hc]) (by omega) h1 ?_
  exact hK _ _ (h _ (setRow_heap w g old cells _ _ hg) (below_setRow (Below.refl _ _) hB _) (fun k hk => by
    simp only [World.setRow, Array.getElem?_modify]
    rw [if_neg (fun e => hk e.symm)]) (by simp [World.setRow]))
end Go.Proofs.Ytlkgmnmnlfaopaa

namespace Go.Proofs.Ytlkgmnmnlfaopaa
open Go.RowKit
set_option maxRecDepth 4000
section
variable {P : Program} {ops : Array Oper} {S : World → Prop} {Q : Exit → Act → World → Prop}
/-- The one operation that may come up, where it yields a value in the world at hand. -/
theorem mix_val {sole rest : List Nat} {a : Act} {w : World} (i : Nat) (o : Oper) (v : Value) (hi : sole.contains i = true) (ho : ops[i]? = some o) (hw : Region.wanted o (yielded ops a.tmps) = true) (d : Option Tmp) (hd : o.dst = d)
    (hr : (execOp a.eval o).run P w = .ok (.value v) w) (h : S w ∧ wpMix P ops S Q sole rest (a.put d v) w) : wpMix P ops S Q sole (i :: rest) a w := by
  subst hd
  refine mix_sole i o hi ho (fun K' hK => ?_)
  rw [if_pos hw]
  unfold Oper.wp
  rw [hr]
  exact hK _ _ h
end
end Go.Proofs.Ytlkgmnmnlfaopaa
