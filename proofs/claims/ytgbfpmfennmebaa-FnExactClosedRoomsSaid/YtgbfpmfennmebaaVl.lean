import Derived.Test.YtgbfpmfennmebaaVg
import Derived.Test.YtgbfpmfennmebaaFc
namespace Go.Proofs.Ytgbfpmfennmebaa
open Go.RowKit
set_option maxRecDepth 4000
theorem boolInfo : (Try.prog.info? 4).map (fun i => (i.zero, i.size, i.bytes)) = some (some (.bool false), 1, 1) := by kernel_rfl
/-- A row of Booleans in a block of the call's own. -/
def BRow (w : World) (g : Nat) (st : List Bool) : Prop := w.heap[g]? = some (.cells (st.map Value.bool).toArray 4 (0, 0))
theorem BRow.lt {w : World} {g : Nat} {st : List Bool} (h : BRow w g st) : g < w.heap.size := (Array.getElem?_eq_some_iff.1 h).1
theorem BRow.cell {w : World} {g : Nat} {st : List Bool} (h : BRow w g st) (k : Nat) (hk : k < st.length) : w.cell? ⟨g, k, none⟩ = some (.bool (st.getD k false)) := by
  rw [cell_of_row w g k _ _ (0, 0) h]
  simp [List.getD, hk]
theorem BRow.fr {w : World} {g : Nat} {st : List Bool} (h : BRow w g st) (j : Nat) : w.frozen? ⟨g, j, none⟩ = false := frozen_of_row w g j _ _ h
theorem BRow.set {w : World} {g : Nat} {st : List Bool} (h : BRow w g st) (k : Nat) (u : Bool) : BRow (w.setCell ⟨g, k, none⟩ (.bool u)) g (st.set k u) := by
  have := heap_setCell_same w g k _ _ (.bool u) h
  rw [BRow, List.map_set]
  simpa using this
theorem BRow.of {w w' : World} {g : Nat} {st : List Bool} (h : BRow w g st) (hb : Below w.heap.size w w') : BRow w' g st := (hb.block g h.lt).trans h
theorem brow_made {w : World} {base g m : Nat} {L : List Value} (h : w.ownsRow base 4 1 (.slice (some ⟨g, 0, none⟩) m m) m L) (hL : L = List.replicate m (Value.bool false)) : BRow w g (List.replicate m false) ∧ base ≤ g := by
  rcases h.2 with ⟨e, _⟩ | ⟨g', cap', cur, e, hb, hh, hc, hm, hs, ht⟩
  · cases e
  · injection e with e1 _ e3
    injection e1 with e1
    injection e1 with e1
    subst e1 e3
    refine ⟨?_, hb⟩
    have e : cur = ((List.replicate m false).map Value.bool).toArray := by
      apply Array.ext'
      rw [List.map_replicate]
      rw [List.take_of_length_le (by simp; omega)] at ht
      rw [ht, hL]
    rw [BRow, ← e]
    exact hh
/-- One block may be written, the others stay. -/
def Kp (g : Nat) (w w' : World) : Prop := w.heap.size ≤ w'.heap.size ∧ ∀ k, k < w.heap.size → k ≠ g → w'.heap[k]? = w.heap[k]?
theorem Kp.refl (g : Nat) (w : World) : Kp g w w := ⟨Nat.le_refl _, fun _ _ _ => rfl⟩
theorem Kp.trans {g : Nat} {w w' w'' : World} (h : Kp g w w') (h' : Kp g w' w'') : Kp g w w'' := ⟨Nat.le_trans h.1 h'.1, fun k hk hne => (h'.2 k (Nat.lt_of_lt_of_le hk h.1) hne).trans (h.2 k hk hne)⟩
theorem Kp.of {g : Nat} {w w' : World} (h : Below w.heap.size w w') : Kp g w w' := ⟨h.size, fun k hk _ => h.block k hk⟩
theorem Kp.set {g : Nat} {w w' : World} (h : Kp g w w') (k : Nat) (u : Value) : Kp g w (w'.setCell ⟨g, k, none⟩ u) :=
  ⟨by simpa [World.setCell] using h.1, fun j hj hne => (Below.heap_setCell _ _ _ _ hne).trans (h.2 j hj hne)⟩
theorem Kp.cell {g : Nat} {w w' : World} (h : Kp g w w') {p : Addr} (hp : p.block < w.heap.size) (hne : p.block ≠ g) : w'.cell? p = w.cell? p := World.cell?_of_block (h.2 p.block hp hne)
theorem Kp.rd {g : Nat} {w w' : World} (h : Kp g w w') {a : Option Addr} {b off : Nat} {xs : List Int} (hr : Rd w a b off xs) (hb : b < w.heap.size) (hne : b ≠ g) : Rd w' a b off xs :=
  ⟨hr.1, fun j hj => ⟨(hr.2 j hj).1, (h.cell hb hne).trans (hr.2 j hj).2⟩⟩
/-- Marking the rooms of a walk, and of walks. -/
def mk1 (st : List Bool) (L : List Nat) : List Bool := L.foldl (fun s k => s.set k true) st
def mkAll (st : List Bool) (Ls : List (List Nat)) : List Bool := Ls.foldl mk1 st
theorem mk1_len (L : List Nat) : ∀ st, (mk1 st L).length = st.length := by
  induction L with
  | nil => intro st; rfl
  | cons k L ih => intro st; rw [mk1, List.foldl_cons]; exact (ih _).trans (by simp)
theorem mkAll_len (Ls : List (List Nat)) : ∀ st, (mkAll st Ls).length = st.length := by
  induction Ls with
  | nil => intro st; rfl
  | cons k L ih => intro st; rw [mkAll, List.foldl_cons]; exact (ih _).trans (mk1_len _ _)
theorem take_at {α : Type} (L : List α) (z : α) (k : Nat) (h : k < L.length) : L.take (k + 1) = L.take k ++ [L.getD k z] := by
  rw [List.take_add_one, List.getD_eq_getElem?_getD, List.getElem?_eq_getElem h]
  rfl
theorem mk1_take (st : List Bool) (L : List Nat) (k : Nat) (h : k < L.length) : mk1 st (L.take (k + 1)) = (mk1 st (L.take k)).set (L.getD k 0) true := by
  rw [take_at L 0 k h, mk1, List.foldl_append]
  rfl
theorem mkAll_take (st : List Bool) (L : List (List Nat)) (k : Nat) (h : k < L.length) : mkAll st (L.take (k + 1)) = mk1 (mkAll st (L.take k)) (L.getD k []) := by
  rw [take_at L [] k h, mkAll, List.foldl_append]
  rfl
theorem mkAll_app (st : List Bool) (A B : List (List Nat)) : mkAll st (A ++ B) = mkAll (mkAll st A) B := List.foldl_append ..
theorem ints_getD (L : List Nat) (k : Nat) : (ints L).getD k 0 = ((L.getD k 0 : Nat) : Int) := by
  simp only [ints, List.getD_eq_getElem?_getD, List.getElem?_map]
  cases L[k]? <;> rfl
theorem wlk_all {xs : List Int} {n : Nat} : ∀ f (s : Nat × (Int × Int)), s.1 < (ci n).length → s.2 ∈ dcell xs n s.1 → ∀ l ∈ (wlk xs n f s).1, l < (ci n).length
  | 0, s, _, _ => by intro l hl; simp [wlk] at hl
  | f + 1, s, h1, h2 => by
    intro l hl
    cases ho : otherD xs n s.1 s.2 with
    | none =>
      simp only [wlk, ho, List.mem_singleton] at hl
      omega
    | some d =>
      cases ha : acrossD n s.1 d with
      | none =>
        simp only [wlk, ho, ha, List.mem_singleton] at hl
        omega
      | some k =>
        have a := acrossD_some ha
        have b := mem_dcell.1 (otherD_some ho).1
        simp only [wlk, ho, ha, List.mem_cons] at hl
        rcases hl with rfl | hl
        · exact h1
        · exact wlk_all f (k, d) a.1 (mem_dcell.2 ⟨a.2.1, b.2⟩) l hl
theorem wfrom_all {xs : List Int} {n : Nat} {fr : Int} {p : Int × Int} (hgo : Goes xs n fr p) : ∀ k, k < (wfrom xs n fr p).1.length → (wfrom xs n fr p).1.getD k 0 < (ci n).length := by
  intro k hk
  have hm := find_mem (wfrom xs n fr p).1 0 k hk
  revert hm
  generalize (wfrom xs n fr p).1.getD k 0 = l
  unfold wfrom
  cases ha : acrossI n fr (inner p) with
  | none => intro hm; simp at hm
  | some q =>
    obtain ⟨h1, h2, -⟩ := hgo.2 q ha
    exact wlk_all _ _ h1 h2 l
def fls (xs : List Int) (n : Nat) : List Nat := (List.range (ci n).length).filter (fullB xs n)
def wks (xs : List Int) (n : Nat) : List (List Nat) := (bds n xs).map (fun d => (wfrom xs n (-1) d).1)
def wfs (xs : List Int) (n : Nat) : List (List Nat) := (fls xs n).map (fun k => (wF xs n k).1)
def rch (xs : List Int) (n : Nat) : List Bool := mkAll (List.replicate (ci n).length false) (wks xs n ++ wfs xs n)
def clB (xs : List Int) (n k : Nat) : Bool := (dcell xs n k).length == 2 && !(rch xs n).getD k false
def valClosed (n : Int) (xs : List Int) : Int := if labB n xs then (flt (clB xs n.toNat) (ci n.toNat).length).length else 0
theorem rch_len (xs : List Int) (n : Nat) : (rch xs n).length = (ci n).length := by rw [rch, mkAll_len, List.length_replicate]
theorem wks_len (xs : List Int) (n : Nat) : (wks xs n).length = (bds n xs).length := by simp [wks]
theorem wks_at (xs : List Int) (n k : Nat) (hk : k < (bds n xs).length) : (wks xs n).getD k [] = (wfrom xs n (-1) ((bds n xs).getD k (0, 0))).1 := by simp [wks, List.getD, hk]
theorem fls_flt (xs : List Int) (n : Nat) : flt (fullB xs n) (ci n).length = ints (fls xs n) := rfl
theorem wfs_len (xs : List Int) (n : Nat) : (wfs xs n).length = (fls xs n).length := by simp [wfs]
theorem wfs_at (xs : List Int) (n k : Nat) (hk : k < (fls xs n).length) : (wfs xs n).getD k [] = (wF xs n ((fls xs n).getD k 0)).1 := by simp [wfs, List.getD, hk]
theorem fls_at (xs : List Int) (n k : Nat) (hk : k < (fls xs n).length) : (fls xs n).getD k 0 < (ci n).length ∧ fullB xs n ((fls xs n).getD k 0) = true := by
  have hm := find_mem (fls xs n) 0 k hk
  simpa [fls, List.mem_filter] using hm
theorem fls_len (xs : List Int) (n : Nat) : (fls xs n).length ≤ (ci n).length := by
  have := List.length_filter_le (fullB xs n) (List.range (ci n).length)
  simpa [fls] using this
theorem ret_ii {x y : Int} {b : Bool} (h : x = y) (hb : b = true) : Ending.returned (.tuple #[.int .i64 x, .bool true]) = .returned (.tuple #[.int .i64 y, .bool b]) := by rw [h, hb]
end Go.Proofs.Ytgbfpmfennmebaa
