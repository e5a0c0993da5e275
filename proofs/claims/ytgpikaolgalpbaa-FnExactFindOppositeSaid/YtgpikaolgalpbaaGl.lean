import Derived.Test.YtgpikaolgalpbaaGk
import Derived.Test.YtgpikaolgalpbaaGj
namespace Go.Proofs.Ytgpikaolgalpbaa
open Go.RowKit
set_option maxRecDepth 4000
/-- The pairs of three points, and how many lie ahead of those of a point. -/
def tri3 (x y z : Nat) : List (Int × Int) := [((x : Int), (y : Int)), ((x : Int), (z : Int)), ((y : Int), (z : Int))]
def pre3 (a : Nat) : Nat := if a = 0 then 0 else if a = 1 then 2 else 3
theorem pre3_succ (a : Nat) (h : a < 3) : pre3 (a + 1) = pre3 a + (2 - a) := by
  match a, h with
  | 0, _ => rfl
  | 1, _ => rfl
  | 2, _ => rfl
theorem tri3_at (x y z a m : Nat) (ha : a < 3) (hm : m < 2 - a) : (tri3 x y z).getD (pre3 a + m) (0, 0) = ((([x, y, z].getD a 0 : Nat) : Int), (([x, y, z].getD (a + 1 + m) 0 : Nat) : Int)) ∧ pre3 a + m < 3 := by
  match a, m, ha, hm with
  | 0, 0, _, _ => exact ⟨rfl, by decide⟩
  | 0, 1, _, _ => exact ⟨rfl, by decide⟩
  | 1, 0, _, _ => exact ⟨rfl, by decide⟩
  | 0, m + 2, _, hm => exact absurd hm (by omega)
  | 1, m + 1, _, hm => exact absurd hm (by omega)
  | a + 2, m, _, hm => exact absurd hm (by omega)
/-- The last of the doors seen that is another one. -/
def nxF (d : Int × Int → Bool) (u v : Int) (q : Int × Int) : Bool := d q && !(q.1 == u && q.2 == v)
def nxt (d : Int × Int → Bool) (u v : Int) (ps : List (Int × Int)) : Option (Int × Int) := (ps.filter (nxF d u v)).getLast?
theorem take_one (ps : List (Int × Int)) (t : Nat) (h : t < ps.length) : ps.take (t + 1) = ps.take t ++ [ps.getD t (0, 0)] := by
  rw [List.take_add_one, List.getElem?_eq_getElem h, List.getD_eq_getElem?_getD, List.getElem?_eq_getElem h]; rfl
theorem nxt_yes (d : Int × Int → Bool) (u v : Int) (ps : List (Int × Int)) (t : Nat) (h : t < ps.length) (hq : nxF d u v (ps.getD t (0, 0)) = true) : nxt d u v (ps.take (t + 1)) = some (ps.getD t (0, 0)) := by
  rw [nxt, take_one ps t h, List.filter_append]
  simp only [List.filter_cons, List.filter_nil]
  rw [if_pos hq, List.getLast?_append]
  rfl
theorem nxt_no (d : Int × Int → Bool) (u v : Int) (ps : List (Int × Int)) (t : Nat) (h : t < ps.length) (hq : nxF d u v (ps.getD t (0, 0)) = false) : nxt d u v (ps.take (t + 1)) = nxt d u v (ps.take t) := by
  rw [nxt, take_one ps t h, List.filter_append]
  simp only [List.filter_cons, List.filter_nil]
  rw [if_neg (by rw [hq]; simp), List.append_nil]
  rfl
theorem filter_ne (d : Int × Int → Bool) (u v : Int) (ps : List (Int × Int)) : ps.filter (nxF d u v) = (ps.filter d).filter (fun q => decide (q ≠ (u, v))) := by
  rw [List.filter_filter]
  congr 1
  funext q
  obtain ⟨a, b⟩ := q
  by_cases h1 : a = u <;> by_cases h2 : b = v <;> cases h3 : d (a, b) <;> simp [nxF, h1, h2, h3] <;> simp_all
/-- Without an opposite edge, what comes behind a cell's pairs is its other door. -/
theorem nxt_end {n : Nat} {xs : List Int} (hL : sqB n xs = true) {k : Nat} (hk : k < (sqC n).length) {u v : Int} (he : (u, v) ∈ gd (cpr (sqC n)) (sumB xs 3) k) (hno : (cpr (sqC n) k).find? (sumB xs 0) = none) :
    ∃ dd, nxt (sumB xs 3) u v (cpr (sqC n) k) = some dd ∧ gOth (cpr (sqC n)) (sumB xs 3) k (u, v) = some dd := by
  have ho : oppAt xs n k = [] := by
    rw [oppAt, List.filter_eq_nil_iff]
    exact fun q hq => by simpa using List.find?_eq_none.1 hno q hq
  rcases sq_rooms hL hk with h | ⟨p, h, h2⟩ | ⟨p, q, h, hpq, -⟩
  · rw [h] at he; simp at he
  · exact absurd ho h2
  · rw [h] at he
    simp only [List.mem_cons, List.not_mem_nil, or_false] at he
    have hg : (cpr (sqC n) k).filter (sumB xs 3) = [p, q] := h
    rw [nxt, filter_ne, hg, gOth, h]
    rcases he with e | e
    · rw [e]
      refine ⟨q, ?_, ?_⟩
      · rw [List.filter_cons_of_neg (by simp), List.filter_cons_of_pos (by simpa using hpq.symm)]; rfl
      · rw [List.find?_cons_of_neg (by simp), List.find?_cons_of_pos (by simpa using hpq.symm)]
    · rw [e]
      refine ⟨p, ?_, ?_⟩
      · rw [List.filter_cons_of_pos (by simpa using hpq), List.filter_cons_of_neg (by simp)]; rfl
      · rw [List.find?_cons_of_pos (by simpa using hpq)]
/-- A cell with an opposite edge has no other door. -/
theorem opp_none {n : Nat} {xs : List Int} (hL : sqB n xs = true) {k : Nat} (hk : k < (sqC n).length) {u v : Int} (he : (u, v) ∈ gd (cpr (sqC n)) (sumB xs 3) k) {p : Int × Int} (hy : (cpr (sqC n) k).find? (sumB xs 0) = some p) :
    gOth (cpr (sqC n)) (sumB xs 3) k (u, v) = none ∧ (oppAt xs n k).head? = some p := by
  have hh : (oppAt xs n k).head? = some p := by rw [oppAt, List.head?_filter]; exact hy
  refine ⟨?_, hh⟩
  rcases sq_rooms hL hk with h | ⟨q, h, -⟩ | ⟨q, r, h, -, h2⟩
  · rw [h] at he; simp at he
  · rw [h] at he
    simp only [List.mem_singleton] at he
    rw [gOth, h, List.find?_cons_of_neg (by simp [he])]
    rfl
  · rw [h2] at hh
    cases hh
theorem own_cap {w : World} {base e n cap : Nat} {a : Option Addr} {xs : List Value} (h : w.ownsRow base e 1 (.slice a n cap) n xs) : n ≤ cap := by
  rcases h.2 with ⟨hv, h0⟩ | ⟨g, cap', cur, hv, hg, hh, hc, hm, hs, ht⟩
  · omega
  · simp only [Value.slice.injEq] at hv
    omega
/-- A cell of the model's list, as the model reads it. -/
theorem row_cell {cs : List (List Int)} {m : Nat} (T : Tri cs m) {w : World} {base : Nat} {a : Option Addr} {mm cap k : Nat} (hc : CellsV w base (.slice a mm cap) cs) (hk : k < cs.length) :
    ∃ x y z g rc rb, a = some ⟨g, 0, none⟩ ∧ g < w.heap.size ∧ cpr cs k = tri3 x y z ∧ x < m ∧ y < m ∧ z < m ∧ x < y ∧ y < z ∧ w.cell? ⟨g, k, none⟩ = some (.slice (some ⟨rb, 0, none⟩) 3 rc) ∧ Rd w (some ⟨rb, 0, none⟩) rb 0 [(x : Int), (y : Int), (z : Int)] ∧ rb < w.heap.size ∧ 3 ≤ rc ∧ rc ≤ maxLen := by
  obtain ⟨hm, -, hrows⟩ := cells_row hc
  obtain ⟨g, ra, rc, rb, ha, -, hgl, c1, hx, hrd, hown, -⟩ := hrows k hk
  obtain ⟨x, y, z, hrow, h1, h2, h3⟩ := T k hk
  rw [hrow] at c1 hrd hown
  have hcap : 3 ≤ rc := own_cap hown
  have hmx : rc ≤ maxLen := by
    rcases hown.2 with ⟨hv, h0⟩ | ⟨g', cap', cur, hv, hg, hh, hcc, hmm, -⟩
    · simp at h0
    · simp only [Value.slice.injEq] at hv
      omega
  have hra : ra = some ⟨rb, 0, none⟩ := (hrd.2 0 (by simp)).1
  subst hra
  refine ⟨x, y, z, g, rc, rb, ha, hgl, cpr_of hrow, by omega, by omega, by omega, h1, h2, c1, hrd, ?_, hcap, hmx⟩
  rcases hx with h | h
  · cases h
  · exact h.2.1
end Go.Proofs.Ytgpikaolgalpbaa
