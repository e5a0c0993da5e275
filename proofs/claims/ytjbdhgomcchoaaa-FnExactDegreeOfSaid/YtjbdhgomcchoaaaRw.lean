import Derived.Test.YtjbdhgomcchoaaaAl
import Derived.Test.YtjbdhgomcchoaaaMk
namespace Go.Proofs.Ytjbdhgomcchoaaa
open Go.RowKit
/-- A list of lists that the call owns: the row of the slices, and each slice's own row; no two rows lie in one block. -/
def CellsV (w : World) (base : Nat) (v : Value) (cs : List (List Int)) : Prop :=
  ∃ vs : List Value, w.ownsRow base 28 1 v cs.length vs ∧ (∀ k, k < cs.length → w.ownsRow base 3 1 (vs.getD k undef) (cs.getD k []).length ((cs.getD k []).map (Value.int .i64))) ∧
    ∀ i j, i < j → j < cs.length → ∀ b, (vs.getD i undef).ownBlock = some b → (vs.getD j undef).ownBlock ≠ some b
theorem rowsInfo : (Try.prog.info? 28).map (fun i => (i.zero, i.size, i.bytes)) = some (some (.slice none 0 0), 1, 24) := by kernel_rfl
theorem cells_nil (w : World) (base : Nat) : CellsV w base (.slice none 0 0) [] := ⟨[], World.ownsRow_nil _ _ _ _, fun k hk => by simp at hk, fun i j _ hj => by simp at hj⟩
theorem cells_now {w w' : World} {base : Nat} {v : Value} {cs : List (List Int)} (h : CellsV w base v cs) (hb : Below w.heap.size w w') : CellsV w' base v cs := by
  obtain ⟨vs, h1, h2, h3⟩ := h
  exact ⟨vs, own_now h1 hb, fun k hk => own_now (h2 k hk) hb, h3⟩
theorem cells_base {w : World} {base base' : Nat} {v : Value} {cs : List (List Int)} (h : CellsV w base v cs) (hb : base' ≤ base) : CellsV w base' v cs := by
  obtain ⟨vs, h1, h2, h3⟩ := h
  have ob : ∀ {e size n : Nat} {v : Value} {xs : List Value}, w.ownsRow base e size v n xs → w.ownsRow base' e size v n xs := fun h => ⟨h.1, by
    rcases h.2 with h | ⟨g, cap, cur, hv, hg', r⟩
    · exact .inl h
    · exact .inr ⟨g, cap, cur, hv, by omega, r⟩⟩
  exact ⟨vs, ob h1, fun k hk => ob (h2 k hk), h3⟩
/-- Rows of numbers do not lie where the row of the slices lies. -/
theorem block_ne {w : World} {base base' n m : Nat} {v u : Value} {xs ys : List Value} (h : w.ownsRow base 28 1 v n xs) (h' : w.ownsRow base' 3 1 u m ys) : ∀ k, u.ownBlock = some k → some k ≠ v.ownBlock := by
  intro k hk he
  rcases h'.2 with ⟨rfl, _⟩ | ⟨g, cap, cur, rfl, _, hh, _⟩
  · simp [Value.ownBlock] at hk
  · simp [Value.ownBlock] at hk
    subst hk
    rcases h.2 with ⟨rfl, _⟩ | ⟨g', cap', cur', rfl, _, hh', _⟩
    · simp [Value.ownBlock] at he
    · simp [Value.ownBlock] at he
      subst he
      rw [hh] at hh'
      simp at hh'
/-- One row more at the end: the new slice is owned, and lies in the world ahead of the block of one cell in which it is handed over. -/
theorem append_row {ops : Array Oper} {rest : List Oper} {o : Oper} {a : Act} {Q : Exit → Act → World → Prop} (base g : Nat) (wi w0 : World) (v u : Value) (cs : List (List Int)) (c : List Int)
    (hgd : o.guard = none) (s y : Operand) (ho : o.op = .call { callee := .builtin .append, args := #[s, y], argTypes := #[22, 22] })
    (hs : a.eval s = v) (hx : a.eval y = .slice (some ⟨g, 0, none⟩) 1 1) (hg : g = w0.heap.size)
    (hci : CellsV wi base v cs) (hbw : Below wi.heap.size wi w0) (hui : w0.ownsRow wi.heap.size 3 1 u c.length (c.map (Value.int .i64))) (hu1 : u.oneCell' = true) (hbi : base ≤ wi.heap.size) (hlen : cs.length < 1000000000)
    (h : ∀ v' w', CellsV w' base v' (cs ++ [c]) → Below base w0 w' → wpList Try.prog ops Q rest (a.put o.dst v') w') :
    wpList Try.prog ops Q (o :: rest) a (w0.alloc (.cells #[u] 28)) := by
  subst hg
  have hc := cells_now hci hbw
  have hbase : base ≤ w0.heap.size := Nat.le_trans hbi hbw.size
  have hub : ∀ b, u.ownBlock = some b → wi.heap.size ≤ b := fun b hb => (hui.lt b hb).1
  have hu : w0.ownsRow base 3 1 u c.length (c.map (Value.int .i64)) := ⟨hui.1, by
    rcases hui.2 with h | ⟨g, cap, cur, hv, hg', r⟩
    · exact .inl h
    · exact .inr ⟨g, cap, cur, hv, by omega, r⟩⟩
  obtain ⟨vs, hi1, hi2, h3⟩ := hci
  have h4 : ∀ k, k < cs.length → ∀ b, (vs.getD k undef).ownBlock = some b → b < wi.heap.size := fun k hk b hb => own_lt (hi2 k hk) b hb
  have h1 := own_now hi1 hbw
  have h2 := fun k hk => own_now (hi2 k hk) hbw
  clear hc
  have hvl : vs.length = cs.length := by simpa using h1.1
  obtain ⟨i0, hi, hz0, hz1, hz2⟩ := info_parts rowsInfo
  refine wpList_append_own _ hgd s y 22 ho base 28 i0 (.slice none 0 0) 1 24 Try.underlying22 hi hz0 hz1 hz2 rfl (by decide) v cs.length _ hs (h1.alloc _) ⟨w0.heap.size, 0, none⟩ 1 1 [u] hx rfl ?_ ?_ ?_ ?_ ?_ ?_
  · intro j x hj
    match j, hj with
    | 0, hj =>
      simp at hj; subst hj
      simp only [Addr.add, if_pos]
      rw [World.cell?_alloc_at _ _ _ _ rfl]; rfl
  · intro x hx'; simp at hx'; subst hx'; exact hu1
  · unfold maxLen; omega
  · omega
  · simp; omega
  · intro v' w1 hown' hgrow _
    have keep : ∀ (x : Value) (n : Nat) (xs : List Value), w0.ownsRow base 3 1 x n xs → w1.ownsRow base 3 1 x n xs := fun x n xs hrow =>
      (hrow.alloc (.cells #[u] 28)).kept hgrow (by
        cases hn : x.ownBlock with
        | none => exact .inl rfl
        | some k => exact .inr (block_ne h1 hrow k hn))
    have eL : ∀ k, k < cs.length → (vs ++ [u]).getD k undef = vs.getD k undef := fun k hk2 => by simp [List.getD, List.getElem?_append, hvl, hk2]
    have eR : (vs ++ [u]).getD cs.length undef = u := by simp [List.getD, ← hvl]
    refine h v' w1 ⟨vs ++ [u], by simpa using hown', fun k hk => ?_, fun i j hij hj b hb1 => ?_⟩ ?_
    · by_cases hk2 : k < cs.length
      · have e1 : (vs ++ [u]).getD k undef = vs.getD k undef := by simp [List.getD, List.getElem?_append, hvl, hk2]
        have e2 : (cs ++ [c]).getD k [] = cs.getD k [] := by simp [List.getD, List.getElem?_append, hk2]
        rw [e1, e2]
        exact keep _ _ _ (h2 k hk2)
      · have hk3 : k = cs.length := by simp at hk; omega
        subst hk3
        have e1 : (vs ++ [u]).getD cs.length undef = u := by simp [List.getD, ← hvl]
        have e2 : (cs ++ [c]).getD cs.length [] = c := by simp [List.getD]
        rw [e1, e2]
        exact keep _ _ _ hu
    · simp only [List.length_append, List.length_cons, List.length_nil] at hj
      rw [eL i (by omega)] at hb1
      by_cases hk2 : j < cs.length
      · rw [eL j hk2]; exact h3 i j hij hk2 b hb1
      · rw [show j = cs.length by omega, eR]
        intro hb2
        have := h4 i (by omega) b hb1
        have := hub b hb2
        omega
    · exact ((Below.refl base w0).alloc hbase _).grown hgrow (by simp; omega) (fun k hk => (h1.lt k hk).1)
/-- One row, read off and written anew in its own block. -/
theorem cells_row {w : World} {base n cap : Nat} {a : Option Addr} {cs : List (List Int)} (h : CellsV w base (.slice a n cap) cs) :
    n = cs.length ∧ cs.length ≤ maxLen ∧ ∀ k, k < cs.length → ∃ g ra rc rb, a = some ⟨g, 0, none⟩ ∧ base ≤ g ∧ g < w.heap.size ∧ w.cell? ⟨g, k, none⟩ = some (.slice ra (cs.getD k []).length rc) ∧ (ra = none ∨ ra = some ⟨rb, 0, none⟩ ∧ rb < w.heap.size ∧ rb ≠ g) ∧ Rd w ra rb 0 (cs.getD k []) ∧
      w.ownsRow base 3 1 (.slice ra (cs.getD k []).length rc) (cs.getD k []).length ((cs.getD k []).map (Value.int .i64)) ∧
      ∀ (w' : World) (c' : List Int), w'.ownsRow base 3 1 (.slice ra (cs.getD k []).length rc) c'.length (c'.map (Value.int .i64)) →
        (∀ k', (ra = none ∨ ∃ b, ra = some ⟨b, 0, none⟩ ∧ k' ≠ b) → w'.heap[k']? = w.heap[k']?) → CellsV w' base (.slice a n cap) (cs.set k c') := by
  obtain ⟨vs, hrow, h3, h4⟩ := h
  obtain ⟨h1, h2⟩ := id hrow
  have hvl : vs.length = cs.length := by simpa using h1
  rcases h2 with ⟨hv, h0⟩ | ⟨g, cap', cur, hv, hg, hh, hc, hm, hs, ht⟩
  · simp only [Value.slice.injEq] at hv
    exact ⟨by omega, by unfold maxLen; omega, fun k hk => by omega⟩
  · simp only [Value.slice.injEq] at hv
    obtain ⟨rfl, rfl, rfl⟩ := hv
    refine ⟨rfl, Nat.le_trans hc hm, fun k hk => ?_⟩
    have hck : w.cell? ⟨g, k, none⟩ = some (vs.getD k undef) := by
      rw [cell_of_row w g k cur _ (0, 0) hh]
      have e : (cur.toList.take (cs.length * 1))[k]? = vs[k]? := by rw [ht]
      rw [List.getElem?_take, if_pos (by omega)] at e
      rw [← Array.getElem?_toList, e, List.getD_eq_getElem?_getD, List.getElem?_eq_getElem (by omega)]
      rfl
    obtain ⟨-, ra, rc, rb, hu, hx, hr⟩ := own_shape (h3 k hk)
    have hbn := block_ne hrow (h3 k hk)
    have hul := own_lt (h3 k hk)
    refine ⟨g, ra, rc, rb, rfl, hg, own_lt hrow g rfl, by rw [hck, hu], hx.imp_right fun h => ⟨h, hul rb (by rw [hu, h]; rfl), fun e => hbn rb (by rw [hu, h]; rfl) (by rw [e]; rfl)⟩, hr, by rw [← hu]; exact h3 k hk, fun w' c' hown hkeep => ?_⟩
    have hblk : ∀ k', (∀ b, (vs.getD k undef).ownBlock = some b → k' ≠ b) → w'.heap[k']? = w.heap[k']? := fun k' hne => hkeep k' (hx.imp_right fun h => ⟨rb, h, hne rb (by rw [hu, h]; rfl)⟩)
    refine ⟨vs, ?_, fun i hi => ?_, fun i j hij hj => ?_⟩
    · rw [List.length_set]
      exact own_keep hrow (fun k' hk' => hblk k' (fun b hb e => hbn b hb (by rw [hk', e])))
    · rw [List.length_set] at hi
      by_cases hik : i = k
      · subst hik
        rw [show (cs.set i c').getD i [] = c' by simp [List.getD, hi], hu]
        exact hown
      · rw [show (cs.set k c').getD i [] = cs.getD i [] by simp [List.getD, Ne.symm hik]]
        refine own_keep (h3 i hi) (fun k' hk' => hblk k' (fun b hb e => ?_))
        subst e
        rcases Nat.lt_or_gt_of_ne hik with hl | hl
        · exact h4 i k hl hk k' hk' hb
        · exact h4 k i hl hi k' hb hk'
    · rw [List.length_set] at hj
      exact h4 i j hij hj
end Go.Proofs.Ytjbdhgomcchoaaa
