import Derived.LoopN
import Derived.BigRegion
import Derived.BigQuiet
import Derived.Test.YtlkgmnmnlfaopaaQ4
import Derived.Test.YtlkgmnmnlfaopaaZa
namespace Go.Proofs.Ytlkgmnmnlfaopaa
open Go.RowKit
set_option maxRecDepth 4000
theorem cells_cell {w : World} {base n cap : Nat} {a : Option Addr} {cs : List (List Int)} (h : CellsV w base (.slice a n cap) cs) (k : Nat) (hk : k < cs.length) :
    ∃ g ra rc, a = some ⟨g, 0, none⟩ ∧ g < w.heap.size ∧ w.cell? ⟨g, k, none⟩ = some (.slice ra (cs.getD k []).length rc) ∧
      ∀ j, j < (cs.getD k []).length → ∃ rb cur, ra = some ⟨rb, 0, none⟩ ∧ base ≤ rb ∧ rb < w.heap.size ∧ w.heap[rb]? = some (.cells cur 3 (0, 0)) ∧ j < cur.size ∧ g ≠ rb ∧
        ∀ w1, Below w.heap.size w w1 → ∀ x, CellsV (w1.setCell ⟨rb, j, none⟩ (.int .i64 x)) base (.slice a n cap) (cs.set k ((cs.getD k []).set j x)) := by
  obtain ⟨vs, h1, h2, h3⟩ := id h
  obtain ⟨-, -, hrow⟩ := oss_row (⟨vs, h1, h2, h3, own_lt h1, fun i hi => own_lt (h2 i hi)⟩ : OSS w base w.heap.size (.slice a n cap) cs)
  obtain ⟨g, ra, rc, rfl, c0, ⟨ho, -⟩, -⟩ := hrow k hk
  refine ⟨g, ra, rc, rfl, own_lt h1 g rfl, c0, fun j hj => ?_⟩
  rcases id ho.2 with ⟨hv, h0⟩ | ⟨rb, cap', cur, hv, hg, hh, hc, hm, hs, ht⟩
  · omega
  · simp only [Value.slice.injEq] at hv
    obtain ⟨rfl, -, rfl⟩ := hv
    refine ⟨rb, cur, rfl, hg, (Array.getElem?_eq_some_iff.1 hh).1, hh, by omega, fun e => ?_, fun w1 hb x => ?_⟩
    · rcases id h1.2 with ⟨hv, h0⟩ | ⟨g2, cap2, cur2, hv2, hg2, hh2, -⟩
      · omega
      · simp only [Value.slice.injEq, Option.some.injEq, Addr.mk.injEq, and_true] at hv2
        rw [← hv2.1, e, hh] at hh2
        simp at hh2
    have hc1 := cells_now h hb
    obtain ⟨vs', k1, k2, k3⟩ := id hc1
    obtain ⟨-, -, hrow'⟩ := oss_row (⟨vs', k1, k2, k3, own_lt k1, fun i hi => own_lt (k2 i hi)⟩ : OSS w1 base w1.heap.size (.slice (some ⟨g, 0, none⟩) n cap) cs)
    obtain ⟨g', ra', rc', e1, c0', ⟨ho', -⟩, hput⟩ := hrow' k hk
    have hgw : g < w.heap.size := own_lt h1 g rfl
    have c0'' := (hb.cell (p := ⟨g, k, none⟩) hgw).trans c0
    obtain rfl : g = g' := by simpa using e1
    rw [c0''] at c0'
    simp only [Option.some.injEq, Value.slice.injEq] at c0'
    obtain ⟨rfl, -, rfl⟩ := c0'
    have hst := (ho'.stored j (.int .i64 x)).1
    rw [← List.map_set] at hst
    have hr := hput (w1.setCell ⟨rb, j, none⟩ (.int .i64 x)) ((cs.getD k []).set j x) (by rw [List.length_set]; exact hst) (fun k' hk' => by
      rcases hk' with h | ⟨b, hb', hne⟩
      · cases h
      · simp only [Option.some.injEq, Addr.mk.injEq, and_true] at hb'
        exact heap_setCell_other _ _ _ _ (by rw [hb']; exact hne))
    exact oss_cells hr
/-- Rows and columns of numbers. -/
def rowL (b : Nat) (f : Nat → Int) : List Int := (List.range b).map f
def gridL (a b : Nat) (f : Nat → Nat → Int) : List (List Int) := (List.range a).map (fun i => rowL b (f i))
theorem rowL_len (b : Nat) (f : Nat → Int) : (rowL b f).length = b := by simp [rowL]
theorem gridL_len (a b : Nat) (f : Nat → Nat → Int) : (gridL a b f).length = a := by simp [gridL]
theorem rowL_at (b : Nat) (f : Nat → Int) (j : Nat) (hj : j < b) : (rowL b f).getD j 0 = f j := by simp [rowL, List.getD, hj]
theorem gridL_at (a b : Nat) (f : Nat → Nat → Int) (i : Nat) (hi : i < a) : (gridL a b f).getD i [] = rowL b (f i) := by simp [gridL, List.getD, hi]
/-- The rows that are made so far, and nil ones. -/
def rwk (a b : Nat) (f : Nat → Nat → Int) (k : Nat) : List (List Int) := (gridL a b f).take k ++ List.replicate (a - k) []
theorem rwk_len' (a b : Nat) (f : Nat → Nat → Int) (k : Nat) (h : k ≤ a) : (rwk a b f k).length = a := by simp [rwk, gridL_len]; omega
theorem rwk_zero (a b : Nat) (f : Nat → Nat → Int) : rwk a b f 0 = List.replicate a [] := by simp [rwk]
theorem rwk_end (a b : Nat) (f : Nat → Nat → Int) : rwk a b f a = gridL a b f := by
  simp only [rwk, Nat.sub_self, List.replicate_zero, List.append_nil]
  exact List.take_of_length_le (by rw [gridL_len]; exact Nat.le_refl _)
theorem rwk_set (a b : Nat) (f : Nat → Nat → Int) (k : Nat) (hk : k < a) : (rwk a b f k).set k (rowL b (f k)) = rwk a b f (k + 1) := by
  apply List.ext_getElem?
  intro i
  simp only [rwk, List.getElem?_set, List.length_append, List.length_take, List.length_replicate, List.getElem?_append, List.getElem?_take, List.getElem?_replicate, gridL_len]
  by_cases h1 : k = i
  · subst h1
    rw [if_pos rfl, if_pos (by omega), if_pos (by omega), if_pos (by omega)]
    simp [gridL, hk]
  · rw [if_neg h1]
    by_cases h2 : i < k
    · rw [if_pos (by omega), if_pos h2, if_pos (by omega), if_pos (by omega)]
    · by_cases h3 : i < a
      · rw [if_neg (by omega), if_pos (by omega), if_neg (by omega), if_pos (by omega)]
      · rw [if_neg (by omega), if_neg (by omega), if_neg (by omega), if_neg (by omega)]
theorem cpy_put (xs : List Int) (j : Nat) (h : j < xs.length) : (cpy xs j).set j (xs.getD j 0) = cpy xs (j + 1) := by
  apply List.ext_getElem?
  intro i
  simp only [cpy, List.getElem?_set, List.length_append, List.length_take, List.length_replicate, List.getElem?_append, List.getElem?_take, List.getElem?_replicate]
  by_cases h1 : j = i
  · subst h1
    rw [if_pos rfl, if_pos (by omega), if_pos (by omega), if_pos (by omega), List.getD_eq_getElem?_getD, List.getElem?_eq_getElem h]; rfl
  · rw [if_neg h1]
    by_cases h2 : i < j
    · rw [if_pos (by omega), if_pos h2, if_pos (by omega), if_pos (by omega)]
    · by_cases h3 : i < xs.length
      · rw [if_neg (by omega), if_pos (by omega), if_neg (by omega), if_pos (by omega)]
      · rw [if_neg (by omega), if_neg (by omega), if_neg (by omega), if_neg (by omega)]
end Go.Proofs.Ytlkgmnmnlfaopaa
