import Derived.Test.YtlkgmnmnlfaopaaZa
import Derived.Test.YtlkgmnmnlfaopaaMa
namespace Go.Proofs.Ytlkgmnmnlfaopaa
open Go.RowKit
set_option maxRecDepth 4000
section
variable {ops : Array Oper} {rest : List Oper} {o : Oper} {a : Act} {Q : Exit → Act → World → Prop}
/-- Three numbers more at the end of a slice of the call's own. -/
theorem append_three (base g off cap : Nat) (w0 : World) (v : Value) (xs : List Int) (x y z : Int)
    (hgd : o.guard = none) (s t : Operand) (ho : o.op = .call { callee := .builtin .append, args := #[s, t], argTypes := #[31, 31] })
    (hs : a.eval s = v) (hx : a.eval t = .slice (some ⟨g, off, none⟩) 3 cap)
    (c0 : w0.cell? ⟨g, off, none⟩ = some (.int .i64 x)) (c1 : w0.cell? ⟨g, off + 1, none⟩ = some (.int .i64 y)) (c2 : w0.cell? ⟨g, off + 2, none⟩ = some (.int .i64 z))
    (hown : w0.ownsRow base 3 1 v xs.length (xs.map (Value.int .i64))) (hbase : base ≤ w0.heap.size) (hlen : xs.length < 1000000000000)
    (h : ∀ v' w', w'.ownsRow base 3 1 v' (xs ++ [x, y, z]).length ((xs ++ [x, y, z]).map (Value.int .i64)) → Below base w0 w' → wpList Try.prog ops Q rest (a.put o.dst v') w') :
    wpList Try.prog ops Q (o :: rest) a w0 := by
  obtain ⟨i0, hi, hz0, hz1, hz2⟩ := info_parts intInfo
  refine wpList_append_own _ hgd s t 31 ho base 3 i0 (.int .i64 0) 1 8 Try.underlying31 hi hz0 hz1 hz2 rfl (by decide) v xs.length _ hs hown ⟨g, off, none⟩ 3 cap [.int .i64 x, .int .i64 y, .int .i64 z] hx rfl ?_ ?_ ?_ ?_ ?_ ?_
  · intro j u hj
    rw [Addr.add_lit]
    match j, hj with
    | 0, hj => simp at hj; subst hj; exact c0
    | 1, hj => simp at hj; subst hj; exact c1
    | 2, hj => simp at hj; subst hj; exact c2
    | j + 3, hj => simp at hj
  · intro u hu
    simp only [List.mem_cons, List.not_mem_nil, or_false] at hu
    rcases hu with rfl | rfl | rfl <;> rfl
  · unfold maxLen; omega
  · omega
  · exact hbase
  · intro v' w1 hown' hgrow _
    refine h v' w1 (by simpa using hown') ?_
    exact (Below.refl base w0).grown hgrow hbase (fun k hk => (hown.lt k hk).1)
end
section
variable {ops : Array Oper} {S : World → Prop} {Q : Exit → Act → World → Prop}
theorem mix_append_three {sole rest : List Nat} {a : Act} {w : World} (i : Nat) (o : Oper) (hi : sole.contains i = true) (ho : ops[i]? = some o) (base g off cap : Nat) (v : Value) (xs : List Int) (x y z : Int)
    (hgd : o.guard = none) (s t : Operand) (hop : o.op = .call { callee := .builtin .append, args := #[s, t], argTypes := #[31, 31] }) (d : Option Tmp) (hd : o.dst = d)
    (hs : a.eval s = v) (hx : a.eval t = .slice (some ⟨g, off, none⟩) 3 cap)
    (c0 : w.cell? ⟨g, off, none⟩ = some (.int .i64 x)) (c1 : w.cell? ⟨g, off + 1, none⟩ = some (.int .i64 y)) (c2 : w.cell? ⟨g, off + 2, none⟩ = some (.int .i64 z))
    (hown : w.ownsRow base 3 1 v xs.length (xs.map (Value.int .i64))) (hbase : base ≤ w.heap.size) (hlen : xs.length < 1000000000000)
    (h : ∀ v' w', w'.ownsRow base 3 1 v' (xs ++ [x, y, z]).length ((xs ++ [x, y, z]).map (Value.int .i64)) → Below base w w' → (∀ k, k < w.heap.size → some k ≠ v.ownBlock → w'.heap[k]? = w.heap[k]?) → S w' ∧ wpMix Try.prog ops S Q sole rest (a.put d v') w') : wpMix Try.prog ops S Q sole (i :: rest) a w := by
  subst hd
  refine mix_sole i o hi ho (fun K' hK => ?_)
  rw [if_pos (by simp [Region.wanted, hgd])]
  obtain ⟨i0, hi, hz0, hz1, hz2⟩ := info_parts intInfo
  refine wp_append_own _ s t 31 hop base 3 i0 (.int .i64 0) 1 8 Try.underlying31 hi hz0 hz1 hz2 rfl (by decide) v xs.length _ hs hown ⟨g, off, none⟩ 3 cap [.int .i64 x, .int .i64 y, .int .i64 z] hx rfl ?_ ?_ ?_ ?_ hbase ?_
  · intro j u hj
    rw [Addr.add_lit]
    match j, hj with
    | 0, hj => simp at hj; subst hj; exact c0
    | 1, hj => simp at hj; subst hj; exact c1
    | 2, hj => simp at hj; subst hj; exact c2
    | j + 3, hj => simp at hj
  · intro u hu
    simp only [List.mem_cons, List.not_mem_nil, or_false] at hu
    rcases hu with rfl | rfl | rfl <;> rfl
  · unfold maxLen; omega
  · omega
  · intro v' w1 hown' hgrow _
    exact hK _ _ (h v' w1 (by simpa using hown') ((Below.refl base w).grown hgrow hbase (fun k hk => (hown.lt k hk).1)) (fun k hk hne => hgrow.block k hk hne))
end
section
variable {ops : Array Oper} {S : World → Prop} {Q : Exit → Act → World → Prop}
theorem run_build_rows (a : Option Addr) (n c : Nat) (w : World) : (Instr.buildSlice 22 1 #[(0, .slice a n c)]).run Try.prog w = .ok (.slice (some ⟨w.heap.size, 0, none⟩) 1 1) (w.alloc (.cells #[.slice a n c] 31)) := by kernel_rfl
theorem mix_build_row {sole rest : List Nat} {a : Act} {w : World} (i : Nat) (o : Oper) (hi : sole.contains i = true) (ho : ops[i]? = some o) (hgd : o.guard = none) (x : Operand) (hop : o.op = .buildSlice 22 1 #[(0, x)]) (d : Option Tmp) (hd : o.dst = d)
    (p : Option Addr) (n c : Nat) (hx : a.eval x = .slice p n c) (h : S (w.alloc (.cells #[.slice p n c] 31)) ∧ wpMix Try.prog ops S Q sole rest (a.put d (.slice (some ⟨w.heap.size, 0, none⟩) 1 1)) (w.alloc (.cells #[.slice p n c] 31))) : wpMix Try.prog ops S Q sole (i :: rest) a w := by
  subst hd
  refine mix_sole i o hi ho (fun K' hK => ?_)
  rw [if_pos (by simp [Region.wanted, hgd])]
  unfold Oper.wp
  simp [execOp, hop, hx, run_build_rows, Result.andThen]
  exact hK _ _ h
theorem mix_append_row {sole rest : List Nat} {a : Act} (ii : Nat) (o : Oper) (hii : sole.contains ii = true) (hoi : ops[ii]? = some o) (base g : Nat) (wi w0 : World) (v u : Value) (cs : List (List Int)) (c : List Int)
    (hgd : o.guard = none) (s y : Operand) (hop : o.op = .call { callee := .builtin .append, args := #[s, y], argTypes := #[22, 22] }) (d : Option Tmp) (hd : o.dst = d)
    (hs : a.eval s = v) (hx : a.eval y = .slice (some ⟨g, 0, none⟩) 1 1) (hg : g = w0.heap.size)
    (hci : CellsV wi base v cs) (hbw : Below wi.heap.size wi w0) (hui : w0.ownsRow wi.heap.size 3 1 u c.length (c.map (Value.int .i64))) (hu1 : u.oneCell' = true) (hbi : base ≤ wi.heap.size) (hlen : cs.length < 1000000000)
    (h : ∀ v' w', CellsV w' base v' (cs ++ [c]) → Below base w0 w' → (∀ q, q < w0.heap.size → some q ≠ v.ownBlock → w'.heap[q]? = w0.heap[q]?) → S w' ∧ wpMix Try.prog ops S Q sole rest (a.put d v') w') :
    wpMix Try.prog ops S Q sole (ii :: rest) a (w0.alloc (.cells #[u] 31)) := by
  subst hd
  refine mix_sole ii o hii hoi (fun K' hK => ?_)
  rw [if_pos (by simp [Region.wanted, hgd])]
  subst hg
  have hc := cells_now hci hbw
  have hbase : base ≤ w0.heap.size := Nat.le_trans hbi hbw.size
  have hub : ∀ b, u.ownBlock = some b → wi.heap.size ≤ b := fun b hb => (hui.lt b hb).1
  have hu : w0.ownsRow base 3 1 u c.length (c.map (Value.int .i64)) := ⟨hui.1, by
    rcases hui.2 with h | ⟨g, cap, cur, hv, hg', r⟩
    · exact .inl h
    · exact .inr ⟨g, cap, cur, hv, by omega, r⟩⟩
  obtain ⟨vs, hi1, hi2, h3⟩ := hci
  have h4 : ∀ k, k < cs.length → ∀ b, (vs.getD k undef).ownBlock = some b → b < wi.heap.size := fun k hk b hb => own_lt (hi2 k hk) b hb
  have h1 := own_now hi1 hbw
  have h2 := fun k hk => own_now (hi2 k hk) hbw
  clear hc
  have hvl : vs.length = cs.length := by simpa using h1.1
  obtain ⟨i0, hi', hz0, hz1, hz2⟩ := info_parts rowsInfo
  refine wp_append_own _ s y 22 hop base 31 i0 (.slice none 0 0) 1 24 Try.underlying22 hi' hz0 hz1 hz2 rfl (by decide) v cs.length _ hs (h1.alloc _) ⟨w0.heap.size, 0, none⟩ 1 1 [u] hx rfl ?_ ?_ ?_ ?_ ?_ ?_
  · intro j x hj
    match j, hj with
    | 0, hj =>
      simp at hj; subst hj
      simp only [Addr.add, if_pos]
      rw [World.cell?_alloc_at _ _ _ _ rfl]; rfl
  · intro x hx'; simp at hx'; subst hx'; exact hu1
  · unfold maxLen; omega
  · omega
  · simp; omega
  · intro v' w1 hown' hgrow _
    have keep : ∀ (x : Value) (n : Nat) (xs : List Value), w0.ownsRow base 3 1 x n xs → w1.ownsRow base 3 1 x n xs := fun x n xs hrow =>
      (hrow.alloc (.cells #[u] 31)).kept hgrow (by
        cases hn : x.ownBlock with
        | none => exact .inl rfl
        | some k => exact .inr (block_ne h1 hrow k hn))
    have eL : ∀ k, k < cs.length → (vs ++ [u]).getD k undef = vs.getD k undef := fun k hk2 => by simp [List.getD, List.getElem?_append, hvl, hk2]
    have eR : (vs ++ [u]).getD cs.length undef = u := by simp [List.getD, ← hvl]
    refine hK _ _ (h v' w1 ⟨vs ++ [u], by simpa using hown', fun k hk => ?_, fun i j hij hj b hb1 => ?_⟩ ?_ ?_)
    · by_cases hk2 : k < cs.length
      · have e1 : (vs ++ [u]).getD k undef = vs.getD k undef := by simp [List.getD, List.getElem?_append, hvl, hk2]
        have e2 : (cs ++ [c]).getD k [] = cs.getD k [] := by simp [List.getD, List.getElem?_append, hk2]
        rw [e1, e2]
        exact keep _ _ _ (h2 k hk2)
      · have hk3 : k = cs.length := by simp at hk; omega
        subst hk3
        have e1 : (vs ++ [u]).getD cs.length undef = u := by simp [List.getD, ← hvl]
        have e2 : (cs ++ [c]).getD cs.length [] = c := by simp [List.getD]
        rw [e1, e2]
        exact keep _ _ _ hu
    · simp only [List.length_append, List.length_cons, List.length_nil] at hj
      rw [eL i (by omega)] at hb1
      by_cases hk2 : j < cs.length
      · rw [eL j hk2]; exact h3 i j hij hk2 b hb1
      · rw [show j = cs.length by omega, eR]
        intro hb2
        have := h4 i (by omega) b hb1
        have := hub b hb2
        omega
    · exact ((Below.refl base w0).alloc hbase _).grown hgrow (by simp; omega) (fun k hk => (h1.lt k hk).1)
    · exact fun q hq hne => (hgrow.block q (by simp; omega) hne).trans (Below.heap_alloc w0 _ _ hq)
end
end Go.Proofs.Ytlkgmnmnlfaopaa
