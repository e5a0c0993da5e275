import Derived.Test.YtgblcohgnagpcaaZb
import Derived.Test.YtgblcohgnagpcaaZf
namespace Go.Proofs.Ytgblcohgnagpcaa
open Go.RowKit
set_option maxRecDepth 4000
theorem append_trio2 {ops : Array Oper} {rest : List Oper} {o : Oper} {a : Act} {Q : Exit → Act → World → Prop} (base g : Nat) (w0 : World) (v : Value) (cs : List (List Int)) (x y z x' y' z' : Int)
    (hgd : o.guard = none) (s t : Operand) (ho : o.op = .call { callee := .builtin .append, args := #[s, t], argTypes := #[70, 70] })
    (hs : a.eval s = v) (hx : a.eval t = .slice (some ⟨g, 0, none⟩) 2 2) (hg : g = w0.heap.size)
    (hc : TrioV w0 base v cs) (hbase : base ≤ w0.heap.size) (hlen : cs.length < 1000000000)
    (h : ∀ v' w', TrioV w' base v' (cs ++ [[x, y, z], [x', y', z']]) → Below base w0 w' → wpList Try.prog ops Q rest (a.put o.dst v') w') :
    wpList Try.prog ops Q (o :: rest) a (w0.alloc (.cells #[.int .i64 x, .int .i64 y, .int .i64 z, .int .i64 x', .int .i64 y', .int .i64 z'] 65)) := by
  subst hg
  obtain ⟨i0, hi, hz0, hz1, hz2⟩ := info_parts trioInfo
  refine wpList_append_own _ hgd s t 70 ho base 65 i0 _ 3 24 Try.underlying70 hi hz0 hz1 hz2 rfl (by decide) v cs.length _ hs (World.ownsRow.alloc hc _) ⟨w0.heap.size, 0, none⟩ 2 2 [.int .i64 x, .int .i64 y, .int .i64 z, .int .i64 x', .int .i64 y', .int .i64 z'] hx rfl ?_ ?_ ?_ ?_ ?_ ?_
  · intro j u hj
    have e : (Addr.add ⟨w0.heap.size, 0, none⟩ j : Addr) = ⟨w0.heap.size, j, none⟩ := by rw [Addr.add_lit, Nat.zero_add]
    rw [e, cell_of_row _ _ _ _ _ (0, 0) (heap_alloc_new w0 _)]
    simpa using hj
  · intro u hu
    simp only [List.mem_cons, List.not_mem_nil, or_false] at hu
    rcases hu with rfl | rfl | rfl | rfl | rfl | rfl <;> rfl
  · unfold maxLen; omega
  · omega
  · simp; omega
  · intro v' w1 hown' hgrow _
    refine h v' w1 (by simpa [TrioV] using hown') ?_
    exact ((Below.refl base w0).alloc hbase _).grown hgrow (by simp; omega) (fun k hk => (World.ownsRow.lt hc k hk).1)
/-- Two rows more at the end. -/
theorem append_row2 {ops : Array Oper} {rest : List Oper} {o : Oper} {a : Act} {Q : Exit → Act → World → Prop} (base g : Nat) (wi w0 : World) (v u u' : Value) (cs : List (List Int)) (c c' : List Int)
    (hgd : o.guard = none) (s y : Operand) (ho : o.op = .call { callee := .builtin .append, args := #[s, y], argTypes := #[23, 23] })
    (hs : a.eval s = v) (hx : a.eval y = .slice (some ⟨g, 0, none⟩) 2 2) (hg : g = w0.heap.size)
    (hci : CellsV wi base v cs) (hbw : Below wi.heap.size wi w0) (hui : w0.ownsRow wi.heap.size 3 1 u c.length (c.map (Value.int .i64))) (hui' : w0.ownsRow wi.heap.size 3 1 u' c'.length (c'.map (Value.int .i64)))
    (hne : ∀ b, u.ownBlock = some b → u'.ownBlock ≠ some b) (hu1 : u.oneCell' = true) (hu1' : u'.oneCell' = true) (hbi : base ≤ wi.heap.size) (hlen : cs.length < 1000000000)
    (h : ∀ v' w', CellsV w' base v' (cs ++ [c, c']) → Below base w0 w' → wpList Try.prog ops Q rest (a.put o.dst v') w') :
    wpList Try.prog ops Q (o :: rest) a (w0.alloc (.cells #[u, u'] 22)) := by
  subst hg
  have hbase : base ≤ w0.heap.size := Nat.le_trans hbi hbw.size
  have hub : ∀ b, u.ownBlock = some b → wi.heap.size ≤ b := fun b hb => (hui.lt b hb).1
  have hub' : ∀ b, u'.ownBlock = some b → wi.heap.size ≤ b := fun b hb => (hui'.lt b hb).1
  have hu := own_lo hui hbi
  have hu' := own_lo hui' hbi
  obtain ⟨vs, hi1, hi2, h3⟩ := hci
  have h4 : ∀ k, k < cs.length → ∀ b, (vs.getD k undef).ownBlock = some b → b < wi.heap.size := fun k hk b hb => own_lt (hi2 k hk) b hb
  have h1 := own_now hi1 hbw
  have h2 := fun k hk => own_now (hi2 k hk) hbw
  have hvl : vs.length = cs.length := by simpa using h1.1
  obtain ⟨i0, hi, hz0, hz1, hz2⟩ := info_parts rowsInfo
  refine wpList_append_own _ hgd s y 23 ho base 22 i0 (.slice none 0 0) 1 24 Try.underlying23 hi hz0 hz1 hz2 rfl (by decide) v cs.length _ hs (h1.alloc _) ⟨w0.heap.size, 0, none⟩ 2 2 [u, u'] hx rfl ?_ ?_ ?_ ?_ ?_ ?_
  · intro j x hj
    have e : (Addr.add ⟨w0.heap.size, 0, none⟩ j : Addr) = ⟨w0.heap.size, j, none⟩ := by rw [Addr.add_lit, Nat.zero_add]
    rw [e, cell_of_row _ _ _ _ _ (0, 0) (heap_alloc_new w0 _)]
    simpa using hj
  · intro x hx'; simp at hx'; rcases hx' with rfl | rfl; exact hu1; exact hu1'
  · unfold maxLen; omega
  · omega
  · simp; omega
  · intro v' w1 hown' hgrow _
    have keep : ∀ (x : Value) (n : Nat) (xs : List Value), w0.ownsRow base 3 1 x n xs → w1.ownsRow base 3 1 x n xs := fun x n xs hrow =>
      (hrow.alloc (.cells #[u, u'] 22)).kept hgrow (by
        cases hn : x.ownBlock with
        | none => exact .inl rfl
        | some k => exact .inr (block_ne h1 hrow k hn))
    have eL : ∀ k, k < cs.length → (vs ++ [u, u']).getD k undef = vs.getD k undef := fun k hk2 => by simp [List.getD, List.getElem?_append, hvl, hk2]
    have eR : (vs ++ [u, u']).getD cs.length undef = u := by simp [List.getD, ← hvl]
    have eR' : (vs ++ [u, u']).getD (cs.length + 1) undef = u' := by simp [List.getD, ← hvl]
    have cL : ∀ k, k < cs.length → (cs ++ [c, c']).getD k [] = cs.getD k [] := fun k hk2 => by simp [List.getD, List.getElem?_append, hk2]
    have cR : (cs ++ [c, c']).getD cs.length [] = c := by simp [List.getD]
    have cR' : (cs ++ [c, c']).getD (cs.length + 1) [] = c' := by simp [List.getD]
    refine h v' w1 ⟨vs ++ [u, u'], by simpa using hown', fun k hk => ?_, fun i j hij hj b hb1 => ?_⟩ ?_
    · simp only [List.length_append, List.length_cons, List.length_nil] at hk
      by_cases hk2 : k < cs.length
      · rw [eL k hk2, cL k hk2]
        exact keep _ _ _ (h2 k hk2)
      · by_cases hk3 : k = cs.length
        · rw [hk3, eR, cR]
          exact keep _ _ _ hu
        · rw [show k = cs.length + 1 by omega, eR', cR']
          exact keep _ _ _ hu'
    · simp only [List.length_append, List.length_cons, List.length_nil] at hj
      by_cases hi2' : i < cs.length
      · rw [eL i hi2'] at hb1
        have hbi1 := h4 i hi2' b hb1
        by_cases hk2 : j < cs.length
        · rw [eL j hk2]; exact h3 i j hij hk2 b hb1
        · by_cases hk3 : j = cs.length
          · rw [hk3, eR]
            intro hb2
            have := hub b hb2
            omega
          · rw [show j = cs.length + 1 by omega, eR']
            intro hb2
            have := hub' b hb2
            omega
      · rw [show i = cs.length by omega, eR] at hb1
        rw [show j = cs.length + 1 by omega, eR']
        exact hne b hb1
    · exact ((Below.refl base w0).alloc hbase _).grown hgrow (by simp; omega) (fun k hk => (h1.lt k hk).1)
/-- The cells of the unit squares of the first m points. -/
def sc1 (n i : Nat) : List (List Int) := if ax n i < n ∧ ay n i < n then [[(i : Int), (i : Int) + 1, (i : Int) + (2 * n + 1) + 1], [(i : Int), (i : Int) + (2 * n + 1), (i : Int) + (2 * n + 1) + 1]] else []
def sci (n m : Nat) : List (List Int) := (List.range m).flatMap (sc1 n)
theorem sci_succ (n m : Nat) : sci n (m + 1) = sci n m ++ sc1 n m := by simp [sci, List.range_succ]
theorem sci_len (n m : Nat) : (sci n m).length ≤ 2 * m := by
  induction m with
  | zero => simp [sci]
  | succ m ih => rw [sci_succ, List.length_append]; unfold sc1; split <;> simp <;> omega
theorem ax_bd {n i : Int} (h1 : 1 ≤ n) (h2 : n ≤ 4) : -n ≤ ax n i ∧ ax n i ≤ n := by
  rcases four h1 h2 with rfl | rfl | rfl | rfl <;> simp only [ax] <;> omega
theorem ay_bd {n i : Int} (h1 : 1 ≤ n) (h2 : n ≤ 4) (i1 : 0 ≤ i) (i2 : i < sqc n) : -n ≤ ay n i ∧ ay n i ≤ n := by
  rcases four h1 h2 with rfl | rfl | rfl | rfl <;> simp only [ay, sqc] at * <;> omega
end Go.Proofs.Ytgblcohgnagpcaa
