import Derived.Test.YtianmmjjcegkjaaDoorH1
import Derived.Test.YtianmmjjcegkjaaDoorGy
import Derived.Test.YtianmmjjcegkjaaDoorMu
import Derived.Test.YtianmmjjcegkjaaDoorZa
import Derived.ArgAppend
import Derived.Deep.Onto
namespace Go.Proofs.YtianmmjjcegkjaaDoor
open Go.RowKit
set_option maxRecDepth 4000
/-- A queue of numbers: what is left of a row whose front has been cut off. -/
def OwnQ (w : World) (base : Nat) (v : Value) (xs : List Int) : Prop :=
  (v = .slice none 0 0 ∧ xs = []) ∨ ∃ g off cap cur, v = .slice (some ⟨g, off, none⟩) xs.length cap ∧ base ≤ g ∧ w.heap[g]? = some (.cells cur 3 (0, 0)) ∧ (0 < cap → off + cap = cur.size) ∧ xs.length ≤ cap ∧ cap ≤ maxLen ∧ ∀ j, j < xs.length → cur[off + j]? = some (.int .i64 (xs.getD j 0))
theorem q_nil (w : World) (base : Nat) : OwnQ w base (.slice none 0 0) [] := .inl ⟨rfl, rfl⟩
theorem q_keep {w w' : World} {base : Nat} {v : Value} {xs : List Int} (h : OwnQ w base v xs) (hk : ∀ k, v.ownBlock = some k → w'.heap[k]? = w.heap[k]?) : OwnQ w' base v xs := by
  rcases h with h | ⟨g, off, cap, cur, rfl, hb, hg, r⟩
  · exact .inl h
  · exact .inr ⟨g, off, cap, cur, rfl, hb, (hk g rfl).trans hg, r⟩
theorem q_lt {w : World} {base : Nat} {v : Value} {xs : List Int} (h : OwnQ w base v xs) : ∀ k, v.ownBlock = some k → base ≤ k ∧ k < w.heap.size := by
  rcases h with ⟨rfl, -⟩ | ⟨g, off, cap, cur, rfl, hb, hg, r⟩
  · intro k hk; cases hk
  · intro k hk
    injection hk with hk
    subst hk
    exact ⟨hb, (Array.getElem?_eq_some_iff.1 hg).1⟩
theorem q_now {w w' : World} {base : Nat} {v : Value} {xs : List Int} (h : OwnQ w base v xs) (hb : Below w.heap.size w w') : OwnQ w' base v xs := q_keep h fun k hk => hb.block k (q_lt h k hk).2
theorem q_shape {w : World} {base : Nat} {v : Value} {xs : List Int} (h : OwnQ w base v xs) : ∃ a c, v = .slice a xs.length c := by
  rcases h with ⟨rfl, rfl⟩ | ⟨g, off, cap, cur, rfl, -⟩
  · exact ⟨none, 0, rfl⟩
  · exact ⟨_, _, rfl⟩
theorem q_len {w : World} {base : Nat} {v : Value} {xs : List Int} (h : OwnQ w base v xs) : xs.length ≤ maxLen := by
  rcases h with ⟨rfl, rfl⟩ | ⟨g, off, cap, cur, rfl, -, -, -, h1, h2, -⟩
  · exact Nat.zero_le _
  · exact Nat.le_trans h1 h2
/-- The first of a queue, and what is left without it. -/
theorem q_head {w : World} {base : Nat} {a : Option Addr} {n cap : Nat} {x : Int} {xs : List Int} (h : OwnQ w base (.slice a n cap) (x :: xs)) :
    ∃ g off, a = some ⟨g, off, none⟩ ∧ w.cell? ⟨g, off, none⟩ = some (.int .i64 x) ∧ 1 ≤ cap ∧ cap ≤ maxLen ∧ OwnQ w base (.slice (if cap = 1 then some ⟨g, off, none⟩ else some ⟨g, off + 1, none⟩) xs.length (cap - 1)) xs := by
  rcases h with ⟨_, e⟩ | ⟨g, off, cap', cur, e, hb, hg, h1, h2, h3, h4⟩
  · cases e
  · simp only [Value.slice.injEq, List.length_cons] at e
    obtain ⟨rfl, rfl, rfl⟩ := e
    simp only [List.length_cons] at h2 h4
    refine ⟨g, off, rfl, ?_, by omega, h3, ?_⟩
    · exact (cell_of_row _ _ _ _ _ (0, 0) hg).trans (h4 0 (by omega))
    · by_cases hc : cap = 1
      · rw [if_pos hc]
        have hx : xs = [] := List.eq_nil_of_length_eq_zero (by omega)
        subst hx
        exact .inr ⟨g, off, cap - 1, cur, rfl, hb, hg, by omega, Nat.zero_le _, by omega, fun j hj => absurd hj (Nat.not_lt_zero _)⟩
      · rw [if_neg hc]
        refine .inr ⟨g, off + 1, cap - 1, cur, rfl, hb, hg, fun _ => ?_, by omega, by omega, fun j hj => ?_⟩
        · have := h1 (by omega); omega
        · have e := h4 (j + 1) (by omega)
          rw [show off + (j + 1) = off + 1 + j by omega] at e
          rw [e, List.getD_cons_succ]
theorem getD_snoc_lt (xs : List Int) (x : Int) (j : Nat) (h : j < xs.length) : (xs ++ [x]).getD j 0 = xs.getD j 0 := by simp [List.getD, List.getElem?_append, h]
theorem getD_snoc_eq (xs : List Int) (x : Int) : (xs ++ [x]).getD xs.length 0 = x := by simp [List.getD]
theorem q_own {w : World} {base n : Nat} {v : Value} {xs : List Int} (h : w.ownsRow base 3 1 v n (xs.map (Value.int .i64))) : OwnQ w base v xs := by
  obtain ⟨h1, h2⟩ := h
  rw [List.length_map, Nat.mul_one] at h1
  subst h1
  rcases h2 with ⟨rfl, h0⟩ | ⟨g, cap, cur, rfl, hb, hh, hc, hm, hs, ht⟩
  · exact .inl ⟨rfl, List.eq_nil_of_length_eq_zero h0⟩
  · refine .inr ⟨g, 0, cap, cur, rfl, hb, hh, fun _ => by omega, hc, hm, fun j hj => ?_⟩
    rw [Nat.mul_one] at ht
    have e : (cur.toList.take xs.length)[j]? = (xs.map (Value.int .i64))[j]? := by rw [ht]
    rw [List.getElem?_take, if_pos hj, Array.getElem?_toList] at e
    rw [Nat.zero_add, e]
    simp [List.getD, hj]
/-- One number more behind a queue. -/
theorem q_app {ops : Array Oper} {rest : List Oper} {o : Oper} {a : Act} {Q : Exit → Act → World → Prop} (base : Nat) (w0 : World) (v : Value) (xs : List Int) (x : Int)
    (hgd : o.guard = none) (s y : Operand) (ho : o.op = .call { callee := .builtin .append, args := #[s, y], argTypes := #[27, 27] })
    (hs : a.eval s = v) (hx : a.eval y = .slice (some ⟨w0.heap.size, 0, none⟩) 1 1)
    (hq : OwnQ w0 base v xs) (hbase : base ≤ w0.heap.size) (hlen : xs.length < 1000000000000)
    (h : ∀ v' w', OwnQ w' base v' (xs ++ [x]) → (∀ q, q < w0.heap.size → v.ownBlock ≠ some q → w'.heap[q]? = w0.heap[q]?) → w0.heap.size ≤ w'.heap.size → (v'.ownBlock = v.ownBlock ∨ ∃ g, v'.ownBlock = some g ∧ w0.heap.size ≤ g) → Below base w0 w' → wpList Tryd.prog ops Q rest (a.put o.dst v') w') :
    wpList Tryd.prog ops Q (o :: rest) a (w0.alloc (.cells #[.int .i64 x] 3)) := by
  obtain ⟨i0, hi, hz0, hz1, hz2⟩ := info_parts intInfo
  have hnew : ∀ j u, [Value.int .i64 x][j]? = some u → (w0.alloc (.cells #[.int .i64 x] 3)).cell? (Addr.add ⟨w0.heap.size, 0, none⟩ j) = some u := by
    intro j u hj
    match j, hj with
    | 0, hj => simp at hj; subst hj; simp [Addr.add]
  have hone : ∀ u ∈ [Value.int .i64 x], u.oneCell' = true := by intro u hu; simp at hu; subst hu; rfl
  have hml : xs.length + 1 ≤ maxLen := by unfold maxLen; omega
  have hgrow : ∀ v' w', (w0.alloc (.cells #[.int .i64 x] 3)).grownBy w' none → w'.ownsRow (w0.alloc (.cells #[.int .i64 x] 3)).heap.size 3 1 v' (xs.length + 1) (xs.map (Value.int .i64) ++ [Value.int .i64 x]) → wpList Tryd.prog ops Q rest (a.put o.dst v') w' := by
    intro v' w' hg hown
    have hown2 : w'.ownsRow (w0.alloc (.cells #[.int .i64 x] 3)).heap.size 3 1 v' (xs.length + 1) ((xs ++ [x]).map (Value.int .i64)) := by simpa using hown
    have hB : Below w0.heap.size w0 w' := ((Below.refl w0.heap.size w0).alloc (Nat.le_refl _) _).grown hg (by simp) (fun k hk => by cases hk)
    refine h v' w' (q_own (World.ownsRow.mono hown2 (by simp; omega))) (fun q hq' _ => hB.block q hq') hB.size ?_ (hB.mono hbase)
    rcases hown2.2 with ⟨rfl, h0⟩ | ⟨g, cap, cur, rfl, hb, -⟩
    · exact absurd h0 (by omega)
    · exact .inr ⟨g, rfl, by simp at hb; omega⟩
  rcases hq with ⟨rfl, rfl⟩ | ⟨g, off, cap, cur, rfl, hb, hg, h1, h2, h3, h4⟩
  · exact wpList_append_grows _ hgd s y 27 ho 3 i0 (.int .i64 0) 1 8 Tryd.underlying27 hi hz0 hz1 hz2 rfl (by decide) none 0 0 [] hs (fun _ => ⟨rfl, rfl⟩) rfl (fun b hb => by cases hb) ⟨w0.heap.size, 0, none⟩ 1 1 [.int .i64 x] hx rfl hnew hone (by omega) hml (by decide) (fun v' w' ho2 hg2 => hgrow v' w' hg2 ho2)
  · have hglt := (Array.getElem?_eq_some_iff.1 hg).1
    have hga : (w0.alloc (.cells #[.int .i64 x] 3)).heap[g]? = some (.cells cur 3 (0, 0)) := (Below.heap_alloc _ _ _ hglt).trans hg
    refine wpList_append_arg _ hgd s y 27 ho 3 i0 (.int .i64 0) 1 8 Tryd.underlying27 hi hz0 hz1 hz2 rfl (by decide) g off xs.length cap (xs.map (Value.int .i64)) hs (by simp) ?_ ⟨w0.heap.size, 0, none⟩ 1 1 [.int .i64 x] hx rfl hnew hone ?_ hml (by omega) ?_ (fun _ v' w' ho2 hg2 => hgrow v' w' hg2 ho2)
    · intro j u hj
      rw [List.getElem?_map] at hj
      by_cases hjl : j < xs.length
      · rw [List.getElem?_eq_getElem hjl] at hj
        simp only [Option.map_some, Option.some.injEq] at hj
        subst hj
        have e := h4 j hjl
        rw [List.getD, List.getElem?_eq_getElem hjl] at e
        exact (cell_of_row _ _ _ _ _ (0, 0) hga).trans e
      · rw [List.getElem?_eq_none (by omega)] at hj; cases hj
    · intro hr j hj
      simp only [List.length_singleton] at hj
      have hj0 : j = 0 := by omega
      subst hj0
      rw [Nat.mul_one, Nat.add_zero]
      have hsz : off + xs.length < cur.size := by have := h1 (by omega); omega
      refine ⟨?_, ?_⟩
      · rw [cell_of_row _ _ _ _ _ (0, 0) hga, Array.getElem?_eq_getElem hsz]; rfl
      · simp [World.frozen?, hga]
    · intro hr
      rw [Nat.mul_one]
      have hsz : off + xs.length < cur.size := by have := h1 (by omega); omega
      have hst := setCell_eq_setRow (w0.alloc (.cells #[.int .i64 x] 3)) g (off + xs.length) cur 3 (0, 0) (.int .i64 x) hga
      show wpList Tryd.prog ops Q rest _ ((w0.alloc (.cells #[.int .i64 x] 3)).setCell ⟨g, off + xs.length, none⟩ (.int .i64 x))
      rw [hst]
      have hgn := setRow_heap (w0.alloc (.cells #[.int .i64 x] 3)) g cur (cur.setIfInBounds (off + xs.length) (.int .i64 x)) 3 (0, 0) hga
      have hB := below_setRow ((Below.refl base w0).alloc hbase (.cells #[.int .i64 x] 3)) hb (cur.setIfInBounds (off + xs.length) (.int .i64 x))
      have hoth : ∀ q, q ≠ g → ((w0.alloc (.cells #[.int .i64 x] 3)).setRow g (cur.setIfInBounds (off + xs.length) (.int .i64 x))).heap[q]? = (w0.alloc (.cells #[.int .i64 x] 3)).heap[q]? := fun q hq => setRow_other _ g q _ hq
      have hsiz : ((w0.alloc (.cells #[.int .i64 x] 3)).setRow g (cur.setIfInBounds (off + xs.length) (.int .i64 x))).heap.size = (w0.alloc (.cells #[.int .i64 x] 3)).heap.size := by simp [World.setRow]
      refine h _ _ (.inr ⟨g, off, cap, _, by simp, hb, hgn, fun hc => by rw [Array.size_setIfInBounds]; exact h1 hc, by simp; omega, h3, fun j hj => ?_⟩) (fun q hq hne => ?_) (by rw [hsiz]; simp) (.inl rfl) hB
      · rw [Array.getElem?_setIfInBounds]
        by_cases hjl : j < xs.length
        · rw [if_neg (by omega), h4 j hjl, getD_snoc_lt _ _ _ hjl]
        · have hje : j = xs.length := by simp at hj; omega
          subst hje
          rw [if_pos rfl, if_pos hsz, getD_snoc_eq]
      · rw [hoth q (fun e => hne (by rw [e]; rfl))]
        exact Below.heap_alloc _ _ _ hq
end Go.Proofs.YtianmmjjcegkjaaDoor
