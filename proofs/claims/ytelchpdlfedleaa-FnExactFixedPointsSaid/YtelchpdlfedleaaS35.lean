import Derived.Test.YtelchpdlfedleaaS33
import Derived.Test.YtelchpdlfedleaaS26
namespace Go.Proofs.Ytelchpdlfedleaa
open Go.RowKit
set_option maxRecDepth 4000
/-- The list of a map's fixed points lies in memory as told. -/
def FpRd (im : List (List Int)) (n : Nat) (w : World) (a : Option Addr) (b : Nat) (ks : List Nat) : Prop := ∀ i, i < ks.length → a = some ⟨b, 0, none⟩ ∧ b < w.heap.size ∧ ∀ t, t < 5 → w.cell? ⟨b, i * 5 + t, none⟩ = some (.int .i64 ((fpr im n (ks.getD i 0)).getD t 0))
theorem fp_shape {im : List (List Int)} {n : Nat} {w : World} {base : Nat} {v : Value} {ks : List Nat} (h : FpV im n w base v ks) : ∃ a cap b, v = .slice a ks.length cap ∧ FpRd im n w a b ks := by
  obtain ⟨h1, h2⟩ := h
  have hn : (ks.flatMap (fpr im n)).length = ks.length * 5 := by simpa using h1
  rcases h2 with ⟨rfl, h0⟩ | ⟨g, cap, cur, rfl, hg, hh, hc, hm, hs, ht⟩
  · have : ks = [] := List.eq_nil_of_length_eq_zero h0
    subst this
    exact ⟨none, 0, 0, rfl, fun j hj => by simp at hj⟩
  · refine ⟨_, cap, g, rfl, fun i hi => ⟨rfl, (Array.getElem?_eq_some_iff.1 hh).1, fun t htt => ?_⟩⟩
    rw [cell_of_row w g _ cur _ (0, 0) hh]
    have e : (cur.toList.take (ks.length * 5))[i * 5 + t]? = ((ks.flatMap (fpr im n)).map (Value.int .i64))[i * 5 + t]? := by rw [ht]
    rw [List.getElem?_take, if_pos (by omega)] at e
    have h5 : (fpr im n (ks.getD i 0)).length = 5 := rfl
    rw [← Array.getElem?_toList, e, List.getElem?_map, fp_at im n ks i t hi htt, List.getD_eq_getElem?_getD (l := fpr im n (ks.getD i 0)), List.getElem?_eq_getElem (by omega)]
    rfl
theorem fprd_now {im : List (List Int)} {n : Nat} {w w' : World} {a : Option Addr} {b : Nat} {ks : List Nat} (h : FpRd im n w a b ks) (hb : Below w.heap.size w w') : FpRd im n w' a b ks := fun i hi => by
  obtain ⟨h1, h2, h3⟩ := h i hi
  exact ⟨h1, Nat.lt_of_lt_of_le h2 hb.size, fun t ht => (hb.cell (p := ⟨b, i * 5 + t, none⟩) h2).trans (h3 t ht)⟩
theorem reg_ag (im : List (List Int)) (n k : Nat) (h : hasK im n k ≠ 2) : (hasK im n k != 0) = agK im n k := by
  have hf := hasV_four (ar im n (cq n k 1) (cq n k 2)) (ar im n (cq n k 2) (cq n k 0)) (ar im n (cq n k 0) (cq n k 1))
  change hasK im n k = 1 ∨ hasK im n k = -1 ∨ hasK im n k = 0 ∨ hasK im n k = 2 at hf
  unfold agK
  rcases hf with e | e | e | e
  · rw [e]; rfl
  · rw [e]; rfl
  · rw [e]; rfl
  · exact absurd e h
theorem run_alloc_fp (w : World) : (Instr.alloc 81 true (.tuple #[])).run Try.prog w = .ok (.pointer (some ⟨w.heap.size, 0, none⟩)) (w.alloc (.cells (fp5 0 0 0 0 0) 81)) := by kernel_rfl
/-- The signs of the fixed points. -/
def sgL (im : List (List Int)) (n m : Nat) : List Int := (ksL im n m).map (sgK im n)
theorem sgL_yes (im : List (List Int)) (n k : Nat) (h : agK im n k = true) : sgL im n (k + 1) = sgL im n k ++ [sgK im n k] := by rw [sgL, sgL, ksL_yes _ _ _ h, List.map_append]; rfl
theorem sgL_no (im : List (List Int)) (n k : Nat) (h : agK im n k = false) : sgL im n (k + 1) = sgL im n k := by rw [sgL, sgL, ksL_no _ _ _ h]
theorem sgL_len (im : List (List Int)) (n m : Nat) : (sgL im n m).length ≤ m := by rw [sgL, List.length_map]; exact ksL_len im n m
theorem take_map_succ {β : Type} (f : Nat → β) (ks : List Nat) (i : Nat) (h : i < ks.length) : (ks.take (i + 1)).map f = (ks.take i).map f ++ [f (ks.getD i 0)] := by
  rw [List.take_add_one, List.getElem?_eq_getElem h, List.map_append, List.getD_eq_getElem?_getD, List.getElem?_eq_getElem h]
  rfl
end Go.Proofs.Ytelchpdlfedleaa
