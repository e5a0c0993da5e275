import Derived.Test.YtianmmjjcegkjaaDoorHg
namespace Go.Proofs.YtianmmjjcegkjaaDoor
open Go.RowKit
set_option maxRecDepth 4000
theorem hb_set (m n : Nat) (L : List Int) (j : Nat) (v : Int) (hj : j < L.length) : (hbL m n L).toArray.setIfInBounds (2 + j) (.int .i64 v) = (hbL m n (L.set j v)).toArray := by
  apply Array.ext'
  rw [Array.toList_setIfInBounds]
  simp only [hbL, List.length_set]
  rw [show 2 + j = j + 1 + 1 by omega, List.set_cons_succ, List.set_cons_succ, List.set_append_left _ _ (by simpa using hj), List.map_set]
theorem hb0_rep (m n s : Nat) (hs : s ≤ 30) : hb0 m n = (hbL m n (List.replicate s 0)).toArray := by
  simp only [hb0, hbL, List.map_replicate, List.length_replicate]
  congr 3
  rw [List.replicate_append_replicate, show s + (30 - s) = 30 by omega]
theorem hb_zero (n m : Nat) (xs : List Int) : (hbL n m xs).toArray[0]? = some (.int .i64 n) ∧ (hbL n m xs).toArray[1]? = some (.int .i64 m) := ⟨rfl, rfl⟩
theorem set_at {w : World} {g i : Nat} {cur : Array Value} {t : TypeId} (hg : w.heap[g]? = some (.cells cur t (0, 0))) (v : Value) :
    (w.setCell ⟨g, i, none⟩ v).heap[g]? = some (.cells (cur.setIfInBounds i v) t (0, 0)) ∧ (∀ q, q ≠ g → (w.setCell ⟨g, i, none⟩ v).heap[q]? = w.heap[q]?) ∧ (w.setCell ⟨g, i, none⟩ v).heap.size = w.heap.size := by
  rw [setCell_eq_setRow w g i cur t (0, 0) v hg]
  exact ⟨setRow_heap w g cur _ t _ hg, fun q hq => setRow_other w g q _ hq, by simp [World.setRow]⟩
/-- Both boards' cells that a round reads. -/
def TwoB (w : World) (g h n m k : Nat) (x : Int) : Prop := w.cell? ⟨g, 0, none⟩ = some (.int .i64 n) ∧ w.cell? ⟨g, 1, none⟩ = some (.int .i64 m) ∧ w.cell? ⟨g, 2 + k, none⟩ = some (.int .i64 x) ∧ w.cell? ⟨h, 0, none⟩ = some (.int .i64 m) ∧ w.cell? ⟨h, 1, none⟩ = some (.int .i64 n)
theorem twoB_of {w : World} {g h n m k : Nat} {xs L : List Int} (hk : k < xs.length) (hg : w.heap[g]? = some (.cells (hbL n m xs).toArray 36 (0, 0))) (hh : w.heap[h]? = some (.cells (hbL m n L).toArray 36 (0, 0))) : TwoB w g h n m k (xs.getD k 0) :=
  ⟨blk_cell hg 0 _ rfl, blk_cell hg 1 _ rfl, blk_cell hg (2 + k) _ (hb_at n m xs k hk), blk_cell hh 0 _ rfl, blk_cell hh 1 _ rfl⟩
theorem twoB_now {w w' : World} {g h n m k : Nat} {x : Int} (hT : TwoB w g h n m k x) (hb : Below w.heap.size w w') (hg : g < w.heap.size) (hh : h < w.heap.size) : TwoB w' g h n m k x :=
  ⟨(hb.cell (p := ⟨g, 0, none⟩) hg).trans hT.1, (hb.cell (p := ⟨g, 1, none⟩) hg).trans hT.2.1, (hb.cell (p := ⟨g, 2 + k, none⟩) hg).trans hT.2.2.1, (hb.cell (p := ⟨h, 0, none⟩) hh).trans hT.2.2.2.1, (hb.cell (p := ⟨h, 1, none⟩) hh).trans hT.2.2.2.2⟩
end Go.Proofs.YtianmmjjcegkjaaDoor
