import Derived.Test.YthkohenobbhhmaaVl
import Derived.Great.Walk
namespace Go.Proofs.Ythkohenobbhhmaa
open Go.RowKit
set_option maxRecDepth 4000
theorem wkInfo : (Try.prog.info? 56).map (fun i => (i.zero, i.size, i.bytes)) = some (some (.agg zeroW), 52, 448) := by kernel_rfl
theorem bslice_some (cs : Array Value) (hc : cs.size = 52) : Try.prog.builtSlice 56 1 [(0, .agg cs)] = some cs := by
  have e : cs = Array.ofFn (fun i : Fin 52 => cs.getD i undef) := by
    apply Array.ext
    · simp [hc]
    · intro i h1 h2; simp [Array.getD, h1]
  have H : ∀ c : Fin 52 → Value, Try.prog.builtSlice 56 1 [(0, .agg (Array.ofFn c))] = some (Array.ofFn c) := by
    intro c
    kernel_rfl
  rw [e]
  exact H _
theorem bslice_wk {ops : Array Oper} {rest : List Oper} {o : Oper} {a : Act} {w : World} {Q : Exit → Act → World → Prop} (hg : o.guard = none) (x : Operand) (ho : o.op = .buildSlice 104 1 #[(0, x)])
    (cs : Array Value) (hx : a.eval x = .agg cs) (hc : cs.size = 52)
    (h : wpList Try.prog ops Q rest (a.put o.dst (.slice (some ⟨w.heap.size, 0, none⟩) 1 1)) (w.alloc (.cells cs 56))) : wpList Try.prog ops Q (o :: rest) a w := by
  refine Great.wpList_buildSliceTo hg 104 56 1 #[(0, x)] ho _ rfl _ rfl Try.underlying104 cs ?_ h
  simpa [hx] using bslice_some cs hc
/-- Walks as the program keeps them: 52 cells each. -/
def wfl (cs : List (Array Value)) : List Value := cs.flatMap (·.toList)
def WksV (w : World) (base : Nat) (v : Value) (cs : List (Array Value)) : Prop := w.ownsRow base 56 52 v cs.length (wfl cs)
theorem wfl_len (cs : List (Array Value)) (h : ∀ c ∈ cs, c.size = 52) : (wfl cs).length = cs.length * 52 := by
  induction cs with
  | nil => rfl
  | cons c cs ih =>
    have e := ih (fun d hd => h d (List.mem_cons_of_mem _ hd))
    have e0 := h c (List.mem_cons_self ..)
    simp only [wfl, List.flatMap_cons, List.length_append, List.length_cons, Array.length_toList] at e ⊢
    omega
theorem wfl_at (cs : List (Array Value)) (h : ∀ c ∈ cs, c.size = 52) : ∀ k j, k < cs.length → j < 52 → (wfl cs)[k * 52 + j]? = (cs.getD k #[])[j]? := by
  induction cs with
  | nil => intro k j hk; exact absurd hk (by simp)
  | cons c cs ih =>
    intro k j hk hj
    have e0 := h c (List.mem_cons_self ..)
    match k with
    | 0 =>
      rw [wfl, List.flatMap_cons, List.getElem?_append_left (by rw [Array.length_toList]; omega)]
      simp
    | k + 1 =>
      have e := ih (fun d hd => h d (List.mem_cons_of_mem _ hd)) k j (by simpa using hk) hj
      rw [wfl, List.flatMap_cons, List.getElem?_append_right (by rw [Array.length_toList]; omega), Array.length_toList, e0, show (k + 1) * 52 + j - 52 = k * 52 + j by omega]
      exact e
theorem append_walk {ops : Array Oper} {rest : List Oper} {o : Oper} {a : Act} {Q : Exit → Act → World → Prop} (base g : Nat) (w0 : World) (v : Value) (cs : List (Array Value)) (c : Array Value)
    (hgd : o.guard = none) (s t : Operand) (ho : o.op = .call { callee := .builtin .append, args := #[s, t], argTypes := #[104, 104] })
    (hs : a.eval s = v) (hx : a.eval t = .slice (some ⟨g, 0, none⟩) 1 1) (hg : g = w0.heap.size)
    (hc : WksV w0 base v cs) (hbase : base ≤ w0.heap.size) (hlen : cs.length < 1000000000) (hsz : c.size = 52) (hone : c.all (·.oneCell') = true)
    (h : ∀ v' w', WksV w' base v' (cs ++ [c]) → Below base w0 w' → (∀ k, k < w0.heap.size → v.ownBlock ≠ some k → w'.heap[k]? = w0.heap[k]?) → wpList Try.prog ops Q rest (a.put o.dst v') w') :
    wpList Try.prog ops Q (o :: rest) a (w0.alloc (.cells c 56)) := by
  subst hg
  obtain ⟨i0, hi, hz0, hz1, hz2⟩ := info_parts wkInfo
  refine wpList_append_own _ hgd s t 104 ho base 56 i0 _ 52 448 Try.underlying104 hi hz0 hz1 hz2 zeroW_size (by decide) v cs.length _ hs (World.ownsRow.alloc hc _) ⟨w0.heap.size, 0, none⟩ 1 1 c.toList hx (by rw [Array.length_toList, hsz]) ?_ ?_ ?_ ?_ ?_ ?_
  · intro j u hj
    have e : (Addr.add ⟨w0.heap.size, 0, none⟩ j : Addr) = ⟨w0.heap.size, j, none⟩ := by rw [Addr.add_lit, Nat.zero_add]
    rw [e, cell_of_row _ _ _ _ _ (0, 0) (heap_alloc_new w0 _)]
    simpa using hj
  · intro u hu
    rw [Array.all_eq_true_iff_forall_mem] at hone
    exact hone u (by simpa using hu)
  · unfold maxLen; omega
  · omega
  · simp; omega
  · intro v' w1 hown' hgrow _
    refine h v' w1 (by simpa [WksV, wfl] using hown') ?_ ?_
    · exact ((Below.refl base w0).alloc hbase _).grown hgrow (by simp; omega) (fun k hk => (World.ownsRow.lt hc k hk).1)
    · intro k hk hne
      rw [hgrow.block k (by simp; omega) (fun e => hne (by first | exact e | exact e.symm))]
      exact Below.heap_alloc w0 _ k hk
end Go.Proofs.Ythkohenobbhhmaa
