import Derived.Test.YtgbfpmfennmebaaVl
import Derived.Test.YtgbfpmfennmebaaRg
import Derived.Great.Walk
namespace Go.Proofs.Ytgbfpmfennmebaa
open Go.RowKit
set_option maxRecDepth 4000
theorem wkInfo : (Try.prog.info? 104).map (fun i => (i.zero, i.size, i.bytes)) = some (some (.agg zeroW), 7, 104) := by kernel_rfl
theorem bslice_some (cs : Array Value) (hc : cs.size = 7) : Try.prog.builtSlice 104 1 [(0, .agg cs)] = some cs := by
  have e : cs = Array.ofFn (fun i : Fin 7 => cs.getD i undef) := by
    apply Array.ext
    · simp [hc]
    · intro i h1 h2; simp [Array.getD, h1]
  have H : ∀ c : Fin 7 → Value, Try.prog.builtSlice 104 1 [(0, .agg (Array.ofFn c))] = some (Array.ofFn c) := by
    intro c
    kernel_rfl
  rw [e]
  exact H _
theorem bslice_wk {ops : Array Oper} {rest : List Oper} {o : Oper} {a : Act} {w : World} {Q : Exit → Act → World → Prop} (hg : o.guard = none) (x : Operand) (ho : o.op = .buildSlice 102 1 #[(0, x)])
    (cs : Array Value) (hx : a.eval x = .agg cs) (hc : cs.size = 7)
    (h : wpList Try.prog ops Q rest (a.put o.dst (.slice (some ⟨w.heap.size, 0, none⟩) 1 1)) (w.alloc (.cells cs 104))) : wpList Try.prog ops Q (o :: rest) a w := by
  refine Great.wpList_buildSliceTo hg 102 104 1 #[(0, x)] ho _ rfl _ rfl Try.underlying102 cs ?_ h
  simpa [hx] using bslice_some cs hc
/-- Walks as the program keeps them: 7 cells each. -/
def wfl (cs : List (Array Value)) : List Value := cs.flatMap (·.toList)
def WksV (w : World) (base : Nat) (v : Value) (cs : List (Array Value)) : Prop := w.ownsRow base 104 7 v cs.length (wfl cs)
theorem wfl_len (cs : List (Array Value)) (h : ∀ c ∈ cs, c.size = 7) : (wfl cs).length = cs.length * 7 := by
  induction cs with
  | nil => rfl
  | cons c cs ih =>
    have e := ih (fun d hd => h d (List.mem_cons_of_mem _ hd))
    have e0 := h c (List.mem_cons_self ..)
    simp only [wfl, List.flatMap_cons, List.length_append, List.length_cons, Array.length_toList] at e ⊢
    omega
theorem wfl_at (cs : List (Array Value)) (h : ∀ c ∈ cs, c.size = 7) : ∀ k j, k < cs.length → j < 7 → (wfl cs)[k * 7 + j]? = (cs.getD k #[])[j]? := by
  induction cs with
  | nil => intro k j hk; exact absurd hk (by simp)
  | cons c cs ih =>
    intro k j hk hj
    have e0 := h c (List.mem_cons_self ..)
    match k with
    | 0 =>
      rw [wfl, List.flatMap_cons, List.getElem?_append_left (by rw [Array.length_toList]; omega)]
      simp
    | k + 1 =>
      have e := ih (fun d hd => h d (List.mem_cons_of_mem _ hd)) k j (by simpa using hk) hj
      rw [wfl, List.flatMap_cons, List.getElem?_append_right (by rw [Array.length_toList]; omega), Array.length_toList, e0, show (k + 1) * 7 + j - 7 = k * 7 + j by omega]
      exact e
theorem append_walk {ops : Array Oper} {rest : List Oper} {o : Oper} {a : Act} {Q : Exit → Act → World → Prop} (base g : Nat) (w0 : World) (v : Value) (cs : List (Array Value)) (c : Array Value)
    (hgd : o.guard = none) (s t : Operand) (ho : o.op = .call { callee := .builtin .append, args := #[s, t], argTypes := #[102, 102] })
    (hs : a.eval s = v) (hx : a.eval t = .slice (some ⟨g, 0, none⟩) 1 1) (hg : g = w0.heap.size)
    (hc : WksV w0 base v cs) (hbase : base ≤ w0.heap.size) (hlen : cs.length < 1000000000) (hsz : c.size = 7) (hone : c.all (·.oneCell') = true)
    (h : ∀ v' w', WksV w' base v' (cs ++ [c]) → Below base w0 w' → (∀ k, k < w0.heap.size → v.ownBlock ≠ some k → w'.heap[k]? = w0.heap[k]?) → wpList Try.prog ops Q rest (a.put o.dst v') w') :
    wpList Try.prog ops Q (o :: rest) a (w0.alloc (.cells c 104)) := by
  subst hg
  obtain ⟨i0, hi, hz0, hz1, hz2⟩ := info_parts wkInfo
  refine wpList_append_own _ hgd s t 102 ho base 104 i0 _ 7 104 Try.underlying102 hi hz0 hz1 hz2 zeroW_size (by decide) v cs.length _ hs (World.ownsRow.alloc hc _) ⟨w0.heap.size, 0, none⟩ 1 1 c.toList hx (by rw [Array.length_toList, hsz]) ?_ ?_ ?_ ?_ ?_ ?_
  · intro j u hj
    have e : (Addr.add ⟨w0.heap.size, 0, none⟩ j : Addr) = ⟨w0.heap.size, j, none⟩ := by rw [Addr.add_lit, Nat.zero_add]
    rw [e, cell_of_row _ _ _ _ _ (0, 0) (heap_alloc_new w0 _)]
    simpa using hj
  · intro u hu
    rw [Array.all_eq_true_iff_forall_mem] at hone
    exact hone u (by simpa using hu)
  · unfold maxLen; omega
  · omega
  · simp; omega
  · intro v' w1 hown' hgrow _
    refine h v' w1 (by simpa [WksV, wfl] using hown') ?_ ?_
    · exact ((Below.refl base w0).alloc hbase _).grown hgrow (by simp; omega) (fun k hk => (World.ownsRow.lt hc k hk).1)
    · intro k hk hne
      rw [hgrow.block k (by simp; omega) (fun e => hne (by first | exact e | exact e.symm))]
      exact Below.heap_alloc w0 _ k hk
/-- Rows of different types lie in different blocks. -/
theorem own_ne {w : World} {base base' n m : Nat} {pv v : Value} {xs ys : List Value} (h : w.ownsRow base 3 1 pv n xs) (h' : w.ownsRow base' 104 7 v m ys) : ∀ k, pv.ownBlock = some k → v.ownBlock ≠ some k := by
  intro k hk hk'
  rcases h.2 with ⟨rfl, -⟩ | ⟨g, cap, cur, rfl, -, hh, -⟩
  · cases hk
  · rcases h'.2 with ⟨rfl, -⟩ | ⟨g', cap', cur', rfl, -, hh', -⟩
    · cases hk'
    · have e : g = k := by simpa [Value.ownBlock] using hk
      have e' : g' = k := by simpa [Value.ownBlock] using hk'
      subst e e'
      rw [hh] at hh'
      simp at hh'
/-- The structs that walks are kept in, and the rooms of each. -/
def WRel (w : World) (base : Nat) (cs : List (Array Value)) (Ls : List (List Nat)) : Prop :=
  cs.length = Ls.length ∧ ∀ j, j < cs.length → ∃ r pv u v f, cs.getD j #[] = wkA r pv u v f ∧ r.size = 3 ∧ (wkA r pv u v f).all (·.oneCell') = true ∧ w.ownsRow base 3 1 pv (ints (Ls.getD j [])).length ((ints (Ls.getD j [])).map (Value.int .i64))
theorem WRel.size {w : World} {base : Nat} {cs : List (Array Value)} {Ls : List (List Nat)} (h : WRel w base cs Ls) : ∀ c ∈ cs, c.size = 7 := by
  intro c hc
  obtain ⟨j, hj, rfl⟩ := List.getElem_of_mem hc
  obtain ⟨r, pv, u, v, f, e, h48, -⟩ := h.2 j hj
  rw [List.getD_eq_getElem?_getD, List.getElem?_eq_getElem hj, Option.getD_some] at e
  rw [e]
  exact wkA_size _ _ _ _ _ h48
theorem WRel.nil (w : World) (base : Nat) : WRel w base [] [] := ⟨rfl, fun j hj => absurd hj (by simp)⟩
theorem WRel.now {w w' : World} {base : Nat} {cs : List (Array Value)} {Ls : List (List Nat)} (h : WRel w base cs Ls) (hb : Below w.heap.size w w') : WRel w' base cs Ls :=
  ⟨h.1, fun j hj => by
    obtain ⟨r, pv, u, v, f, e, h48, h1, ho⟩ := h.2 j hj
    exact ⟨r, pv, u, v, f, e, h48, h1, own_now ho hb⟩⟩
theorem WRel.push {w w' : World} {base m : Nat} {V : Value} {cs : List (Array Value)} {Ls : List (List Nat)} {L : List Nat} {r : Array Value} {pv : Value} {u v : Int} {f : Bool} {ys : List Value} (h : WRel w base cs Ls)
    (hk : ∀ k, k < w.heap.size → V.ownBlock ≠ some k → w'.heap[k]? = w.heap[k]?) (hV : w.ownsRow base 104 7 V m ys) (h48 : r.size = 3) (h1 : (wkA r pv u v f).all (·.oneCell') = true)
    (ho : w.ownsRow base 3 1 pv (ints L).length ((ints L).map (Value.int .i64))) : WRel w' base (cs ++ [wkA r pv u v f]) (Ls ++ [L]) := by
  refine ⟨by simp [h.1], fun j hj => ?_⟩
  by_cases hlt : j < cs.length
  · obtain ⟨r, pv, u, v, f, e, h48, h1, ho⟩ := h.2 j hlt
    have hlt2 : j < Ls.length := by rw [← h.1]; exact hlt
    refine ⟨r, pv, u, v, f, ?_, h48, h1, ?_⟩
    · rw [← e]; simp [List.getD, List.getElem?_append_left hlt]
    · rw [show (Ls ++ [L]).getD j [] = Ls.getD j [] by simp [List.getD, List.getElem?_append_left hlt2]]
      exact own_keep ho (fun q hq => hk q (own_lt ho q hq) (own_ne ho hV q hq))
  · have e : j = cs.length := by simp at hj; omega
    subst e
    refine ⟨r, pv, u, v, f, by simp [List.getD], h48, h1, ?_⟩
    rw [show (Ls ++ [L]).getD cs.length [] = L by simp [List.getD, h.1]]
    exact own_keep ho (fun q hq => hk q (own_lt ho q hq) (own_ne ho hV q hq))
end Go.Proofs.Ytgbfpmfennmebaa
