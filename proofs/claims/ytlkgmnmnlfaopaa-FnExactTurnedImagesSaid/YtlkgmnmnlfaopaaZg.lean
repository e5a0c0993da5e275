import Derived.Test.YtlkgmnmnlfaopaaZa
import Derived.Test.YtlkgmnmnlfaopaaZe
namespace Go.Proofs.Ytlkgmnmnlfaopaa
open Go.RowKit
set_option maxRecDepth 4000
/-- Whether there are labels, and two points that are neighbours. -/
def ptB (n i : Int) : Bool := decide (0 ≤ i ∧ i < (Pr.cnt n.toNat : Nat))
def pairB (n : Int) (xs : List Int) (i j : Int) : Bool := labB n xs && (ptB n i && (ptB n j && nearB (pt n.toNat i.toNat) (pt n.toNat j.toNat)))
theorem ptB_yes {n : Nat} {i : Int} (h : ptB n i = true) : ∃ k : Nat, i = k ∧ k < Pr.cnt n := by
  simp only [ptB, decide_eq_true_eq, Int.toNat_natCast] at h
  obtain ⟨k, rfl⟩ := Int.eq_ofNat_of_zero_le h.1
  exact ⟨k, rfl, by omega⟩
theorem ptB_no {n : Nat} {i : Int} (h : ptB n i = false) : ¬ (0 ≤ i ∧ i < (Pr.cnt n : Nat)) := by
  simpa [ptB] using h
theorem ptB_not {n : Nat} {i : Int} (h : ptB n i = false) : ¬ Pr.okPt n i := fun hh => ptB_no h ⟨hh.2.2.1, by simpa using hh.2.2.2⟩
theorem labB_nat {n : Int} {xs : List Int} (h : labB n xs = true) : ∃ m : Nat, n = m := by
  simp only [labB, decide_eq_true_eq] at h
  obtain ⟨m, rfl⟩ := Int.eq_ofNat_of_zero_le (show 0 ≤ n by omega)
  exact ⟨m, rfl⟩
theorem ret_b {x : Value} {b : Bool} (h : b = true) (hx : x = .bool true) : Ending.returned x = .returned (.bool b) := by rw [hx, h]
theorem ret_f {x : Value} {b : Bool} (h : b = false) (hx : x = .bool false) : Ending.returned x = .returned (.bool b) := by rw [hx, h]
def okIsDoor (n : Int) (xs : List Int) (i j : Int) : Bool := pairB n xs i j
def valIsDoor (n : Int) (xs : List Int) (i j : Int) : Bool := pairB n xs i j && doorB xs i j
theorem pairB_yes {n : Int} {xs : List Int} {i j : Int} (h : pairB n xs i j = true) : ∃ n' i' j' : Nat, n = n' ∧ i = i' ∧ j = j' ∧ labB n' xs = true ∧ i' < Pr.cnt n' ∧ j' < Pr.cnt n' ∧ nearB (pt n' i') (pt n' j') = true := by
  simp only [pairB, Bool.and_eq_true] at h
  obtain ⟨hL, hi, hj, hN⟩ := h
  obtain ⟨n, rfl⟩ := labB_nat hL
  obtain ⟨i, rfl, hi'⟩ := ptB_yes hi
  obtain ⟨j, rfl, hj'⟩ := ptB_yes hj
  exact ⟨n, i, j, rfl, rfl, rfl, hL, hi', hj', by simpa using hN⟩
end Go.Proofs.Ytlkgmnmnlfaopaa

namespace Go.Proofs.Ytlkgmnmnlfaopaa
open Go.RowKit
set_option maxRecDepth 4000
def drB (xs : List Int) (p : Int × Int) : Bool := doorB xs p.1 p.2
theorem drs_yes (xs : List Int) (ps : List (Int × Int)) (k : Nat) (hk : k < ps.length) (h : drB xs (ps.getD k (0, 0)) = true) : (ps.take (k + 1)).filter (drB xs) = (ps.take k).filter (drB xs) ++ [ps.getD k (0, 0)] := by
  rw [List.take_add_one, List.filter_append, List.getElem?_eq_getElem hk]
  rw [List.getD_eq_getElem?_getD, List.getElem?_eq_getElem hk] at h ⊢
  simp only [Option.getD_some] at h
  simp [h]
theorem drs_no (xs : List Int) (ps : List (Int × Int)) (k : Nat) (hk : k < ps.length) (h : drB xs (ps.getD k (0, 0)) = false) : (ps.take (k + 1)).filter (drB xs) = (ps.take k).filter (drB xs) := by
  rw [List.take_add_one, List.filter_append, List.getElem?_eq_getElem hk]
  rw [List.getD_eq_getElem?_getD, List.getElem?_eq_getElem hk] at h
  simp only [Option.getD_some] at h
  simp [h]
theorem drs_len (xs : List Int) (ps : List (Int × Int)) (k : Nat) : ((ps.take k).filter (drB xs)).length ≤ ps.length :=
  Nat.le_trans (List.length_filter_le _ _) (by rw [List.length_take]; omega)
/-- Pairs of points of a list of labels. -/
def Pts (m : Nat) (ps : List (Int × Int)) : Prop := ∀ k, k < ps.length → ∃ i j : Nat, ps.getD k (0, 0) = ((i : Int), (j : Int)) ∧ i < m ∧ j < m
end Go.Proofs.Ytlkgmnmnlfaopaa

namespace Go.Proofs.Ytlkgmnmnlfaopaa
open Go.RowKit
set_option maxRecDepth 4000
/-- The points of a cell of the list. -/
def cq (n k t : Nat) : Nat := ((ci n).flatten.getD (k * 3 + t) 0).toNat
theorem ci_cq : ∀ n, n < 9 → (ci n).length = n * n ∧ ∀ k, k < (ci n).length → (ci n).getD k [] = [(cq n k 0 : Int), (cq n k 1 : Int), (cq n k 2 : Int)] ∧
    (ci n).flatten.getD (k * 3) 0 = (cq n k 0 : Int) ∧ (ci n).flatten.getD (k * 3 + 1) 0 = (cq n k 1 : Int) ∧ (ci n).flatten.getD (k * 3 + 2) 0 = (cq n k 2 : Int) ∧ cq n k 0 < Pr.cnt n ∧ cq n k 1 < Pr.cnt n ∧ cq n k 2 < Pr.cnt n := by decide +kernel
def cpairs (n k : Nat) : List (Int × Int) := [((cq n k 0 : Int), (cq n k 1 : Int)), ((cq n k 0 : Int), (cq n k 2 : Int)), ((cq n k 1 : Int), (cq n k 2 : Int))]
end Go.Proofs.Ytlkgmnmnlfaopaa

namespace Go.Proofs.Ytlkgmnmnlfaopaa
open Go.RowKit
set_option maxRecDepth 4000
/-- The labels that were met, as bits. -/
def sn (xs : List Int) (c : List Nat) : Nat → Nat
  | 0 => 0
  | j + 1 => sn xs c j ||| (1 <<< (xs.getD (c.getD j 0) 0).toNat)
theorem lab3 {xs : List Int} (hA : allB 0 2 xs = true) (i : Nat) (hi : i < xs.length) : xs.getD i 0 = 0 ∨ xs.getD i 0 = 1 ∨ xs.getD i 0 = 2 := by
  have := allB_at hA i hi; omega
theorem or8 : ∀ a, a < 8 → ∀ b, b < 8 → a ||| b < 8 := by decide
theorem sn_lt (xs : List Int) (c : List Nat) (h : ∀ j, j < c.length → xs.getD (c.getD j 0) 0 = 0 ∨ xs.getD (c.getD j 0) 0 = 1 ∨ xs.getD (c.getD j 0) 0 = 2) : ∀ j, j ≤ c.length → sn xs c j < 8
  | 0, _ => by simp [sn]
  | j + 1, hj => by
    have ih := sn_lt xs c h j (by omega)
    simp only [sn]
    rcases h j (by omega) with e | e | e <;> rw [e] <;> exact or8 _ ih _ (by decide)
end Go.Proofs.Ytlkgmnmnlfaopaa

namespace Go.Proofs.Ytlkgmnmnlfaopaa
open Go.RowKit
set_option maxRecDepth 4000
theorem sqw (n : Nat) (h2 : n ≤ 8) : wrap64 ((n : Int) * (n : Int)) = ((n * n : Nat) : Int) := by
  have : n * n ≤ 8 * 8 := Nat.mul_le_mul h2 h2
  rw [IntWalk.wrap64_in _ ⟨by have : (0:Int) ≤ (n:Int) * (n:Int) := Int.mul_nonneg (by omega) (by omega); omega, by have : ((n * n : Nat) : Int) = (n:Int) * (n:Int) := Int.natCast_mul n n; omega⟩]
  exact (Int.natCast_mul n n).symm
/-- Whether there are labels and a cell. -/
def okCell (n : Int) (xs : List Int) (k : Int) : Bool := labB n xs && decide (0 ≤ k ∧ k < ((ci n.toNat).length : Nat))
theorem okCell_yes {n k : Int} {xs : List Int} (h : okCell n xs k = true) : ∃ n' k' : Nat, n = n' ∧ k = k' ∧ labB n' xs = true ∧ k' < (ci n').length := by
  simp only [okCell, Bool.and_eq_true, decide_eq_true_eq] at h
  obtain ⟨hL, h3, h4⟩ := h
  obtain ⟨n, rfl⟩ := labB_nat hL
  obtain ⟨k, rfl⟩ := Int.eq_ofNat_of_zero_le h3
  exact ⟨n, k, rfl, rfl, hL, by simpa using h4⟩
def cl (n k : Nat) : List Nat := [cq n k 0, cq n k 1, cq n k 2]
/-- Whether a cell is full. -/
def fullB (xs : List Int) (n k : Nat) : Bool := sn xs (cl n k) 3 == 7
theorem full_eq (n k : Nat) (xs : List Int) (hL : labB n xs = true) (hk : k < (ci n).length) : (((cpairs n k).filter (drB xs)).length == 1) = fullB xs n k := by
  obtain ⟨h1, h2, hl, hA⟩ := labB_yes hL
  obtain ⟨-, hall⟩ := ci_cq n (by omega)
  obtain ⟨-, -, -, -, hp, hq, hr⟩ := hall k hk
  have a := lab3 hA (cq n k 0) (by omega)
  have b := lab3 hA (cq n k 1) (by omega)
  have c := lab3 hA (cq n k 2) (by omega)
  simp only [fullB, cl, sn, cpairs, drB, doorB, List.filter_cons, List.filter_nil, Int.toNat_natCast, List.getD_cons_zero, List.getD_cons_succ]
  rcases a with a | a | a <;> rcases b with b | b | b <;> rcases c with c | c | c <;> simp only [a, b, c] <;> rfl
theorem cl_in (n k : Nat) (xs : List Int) (hL : labB n xs = true) (hk : k < (ci n).length) : ∀ j, j < (cl n k).length → (cl n k).getD j 0 < xs.length := by
  obtain ⟨h1, h2, hl, hA⟩ := labB_yes hL
  obtain ⟨-, hall⟩ := ci_cq n (by omega)
  obtain ⟨-, -, -, -, hp, hq, hr⟩ := hall k hk
  intro j hj
  match j, hj with
  | 0, _ => show cq n k 0 < _; omega
  | 1, _ => show cq n k 1 < _; omega
  | 2, _ => show cq n k 2 < _; omega
  | j + 3, hj => exact absurd hj (by simp [cl])
/-- A cell read off the model's list of cells. -/
theorem spec_cell {w : World} {base : Nat} {a : Option Addr} {m cap n k : Nat} (h2 : n ≤ 8) (hc : CellsV w base (.slice a m cap) (ci n)) (hk : k < (ci n).length) :
    m = (ci n).length ∧ ∃ g ra rc rb, a = some ⟨g, 0, none⟩ ∧ g < w.heap.size ∧ w.cell? ⟨g, k, none⟩ = some (.slice ra 3 rc) ∧ Rd w ra rb 0 ((cl n k).map (fun (i : Nat) => (i : Int))) ∧ (ra = none ∨ rb < w.heap.size) := by
  obtain ⟨hm, -, hrows⟩ := cells_row hc
  obtain ⟨g, ra, rc, rb, ha, -, hgl, c1, hx, hrd, -, -⟩ := hrows k hk
  obtain ⟨-, hall⟩ := ci_cq n (by omega)
  obtain ⟨hrow, -⟩ := hall k hk
  rw [hrow] at c1 hrd
  exact ⟨hm, g, ra, rc, rb, ha, hgl, c1, hrd, hx.imp_right fun h => h.2.1⟩
def okIsFull (n : Int) (xs : List Int) (k : Int) : Bool := okCell n xs k
def valIsFull (n : Int) (xs : List Int) (k : Int) : Bool := okCell n xs k && fullB xs n.toNat k.toNat
end Go.Proofs.Ytlkgmnmnlfaopaa

namespace Go.Proofs.Ytlkgmnmnlfaopaa
open Go.RowKit
set_option maxRecDepth 4000
theorem cq_up : ∀ n, n < 9 → ∀ k, k < (ci n).length → cq n k 0 < cq n k 1 ∧ cq n k 1 < cq n k 2 := by decide +kernel
/-- The doors of a cell. -/
def dcell (xs : List Int) (n k : Nat) : List (Int × Int) := (cpairs n k).filter (drB xs)
/-- A full cell has one door, others none or two. -/
theorem dcell_cases (n k : Nat) (xs : List Int) (hL : labB n xs = true) (hk : k < (ci n).length) :
    (fullB xs n k = true ∧ ∃ p, dcell xs n k = [p]) ∨ (fullB xs n k = false ∧ (dcell xs n k = [] ∨ ∃ p q, dcell xs n k = [p, q] ∧ p ≠ q)) := by
  obtain ⟨h1, h2, hl, hA⟩ := labB_yes hL
  obtain ⟨-, hall⟩ := ci_cq n (by omega)
  obtain ⟨-, -, -, -, hp, hq, hr⟩ := hall k hk
  obtain ⟨u1, u2⟩ := cq_up n (by omega) k hk
  have a := lab3 hA (cq n k 0) (by omega)
  have b := lab3 hA (cq n k 1) (by omega)
  have c := lab3 hA (cq n k 2) (by omega)
  have e1 : ((cq n k 0 : Int), (cq n k 1 : Int)) ≠ ((cq n k 0 : Int), (cq n k 2 : Int)) := fun e => by
    have := congrArg Prod.snd e; simp at this; omega
  have e2 : ((cq n k 0 : Int), (cq n k 1 : Int)) ≠ ((cq n k 1 : Int), (cq n k 2 : Int)) := fun e => by
    have := congrArg Prod.fst e; simp at this; omega
  have e3 : ((cq n k 0 : Int), (cq n k 2 : Int)) ≠ ((cq n k 1 : Int), (cq n k 2 : Int)) := fun e => by
    have := congrArg Prod.fst e; simp at this; omega
  simp only [dcell, fullB, cl, sn, cpairs, drB, doorB, List.filter_cons, List.filter_nil, Int.toNat_natCast, List.getD_cons_zero, List.getD_cons_succ]
  rcases a with a | a | a <;> rcases b with b | b | b <;> rcases c with c | c | c <;> simp only [a, b, c] <;>
    first
    | exact .inl ⟨rfl, _, rfl⟩
    | exact .inr ⟨rfl, .inl rfl⟩
    | exact .inr ⟨rfl, .inr ⟨_, _, rfl, e1⟩⟩
    | exact .inr ⟨rfl, .inr ⟨_, _, rfl, e2⟩⟩
    | exact .inr ⟨rfl, .inr ⟨_, _, rfl, e3⟩⟩
end Go.Proofs.Ytlkgmnmnlfaopaa
