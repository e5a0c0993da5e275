import Derived.Test.YtianmmjjcegkjaaDoorHa
import Derived.Test.YtianmmjjcegkjaaDoorZc
namespace Go.Proofs.YtianmmjjcegkjaaDoor
open Go.RowKit
set_option maxRecDepth 4000
theorem splice_hb (n m : Nat) (xs : List Int) : splice (hb0 n m).toList 2 (xs.map (Value.int .i64)) = hbL n m xs := by
  simp only [splice, hb0, hbL, List.take_succ_cons, List.take_succ_cons, List.take_zero, List.length_map, List.toList_toArray, List.cons_append, List.nil_append]
  congr 1
  rw [show 2 + xs.length = xs.length + 1 + 1 by omega, List.drop_succ_cons, List.drop_succ_cons, List.drop_replicate]
theorem hbL_one (n m : Nat) (xs : List Int) : (hbL n m xs).toArray.all (·.oneCell') = true := by
  simp only [hbL, List.all_toArray, List.all_cons, List.all_append, List.all_map, List.all_replicate, Bool.and_eq_true]
  refine ⟨rfl, rfl, ?_, ?_⟩
  · simp only [List.all_eq_true]; intro x _; rfl
  · split <;> rfl
theorem hbL_size (n m : Nat) (xs : List Int) (h : xs.length ≤ 30) : (hbL n m xs).toArray.size = 32 := by rw [List.size_toArray]; exact hbL_len n m xs h
theorem copy_hb {ops : Array Oper} {rest : List Oper} {o : Oper} {a : Act} {w : World} {Q : Exit → Act → World → Prop} (hgd : o.guard = none) (d s : Operand)
    (ho : o.op = .call { callee := .builtin .copy, args := #[d, s], argTypes := #[27, 27] }) (g n m : Nat) (xs : List Int) (ad : Option Addr) (b off len cap : Nat)
    (hd : a.eval d = .slice (some ⟨g, 2, none⟩) 30 30) (hs : a.eval s = .slice ad len cap) (hg : w.heap[g]? = some (.cells (hb0 n m) 36 (0, 0))) (hr : Rd w ad b off xs) (hn : xs.length = len) (hl : len ≤ 30) (B : Nat) (hB : B ≤ g)
    (h : ∀ w', w'.heap[g]? = some (.cells (hbL n m xs).toArray 36 (0, 0)) → Below B w w' → wpList Tryd.prog ops Q rest (a.put o.dst (goInt (xs.map (Value.int .i64)).length)) w') : wpList Tryd.prog ops Q (o :: rest) a w := by
  refine wpList_copy_splice hgd d s 27 27 ho 3 Tryd.underlying27 (by kernel_rfl) (some ⟨g, 2, none⟩) ad 30 30 len cap hd hs g 2 (hb0 n m).toList 36 (by simpa using hg) (xs.map (Value.int .i64)) ?_ ?_ ?_ (ints_oneCell _ _) B w (Below.refl _ _) hB ?_
  · rw [List.length_map, hn]; simp [Nat.min_def]; omega
  · intro hp
    refine ⟨rfl, ⟨b, off, none⟩, ?_, ?_⟩
    · exact (hr.2 0 (by simpa using hp)).1
    · intro j v hv
      have hj : j < xs.length := by have := (List.getElem?_eq_some_iff.1 hv).1; simpa using this
      rw [Addr.add_lit, (hr.2 j hj).2]
      simp [List.getD, hj] at hv ⊢
      exact hv
  · rw [List.length_map, hn]; simp [hb0]; omega
  · intro w' hw hb
    refine h w' ?_ hb
    have := hw.out
    rwa [splice_hb] at this
theorem results_hb {fn : Func} {p q : Tmp} (h : fn.results = #[.cell p 36, .tmp q]) (tmps : Array Value) (w : World) (g : Nat) (cs : Array Value) (v : Value)
    (hp : tmps.getD p undef = .pointer (some ⟨g, 0, none⟩)) (hq : tmps.getD q undef = v) (hg : w.heap[g]? = some (.cells cs 36 (0, 0))) (hc : cs.size = 32) :
    (results fn tmps).run Tryd.prog w = .ok (.tuple #[.agg cs, v]) w := by
  have hp' : tmps[p]?.getD undef = .pointer (some ⟨g, 0, none⟩) := by simpa using hp
  have hq' : tmps[q]?.getD undef = v := by simpa using hq
  have hload := run_loadVar_row (P := Tryd.prog) w g 36 36 cs (0, 0) _ hg Tryd.underlying36 rfl (by rw [hbSize, hc])
  simp [results, h, hp', hq', asAddr, hload]
/-- The places of a grid. -/
theorem gridSize_any (n m s : Nat) (hnm : n * m = s) (hs : s ≤ 30) (w : World) :
    Calls Tryd.prog 11 #[.agg #[.int .i64 n, .int .i64 m]] w fun e w' => e = .returned (.int .i64 s) ∧ Below w.heap.size w w' := by
  have hp : (n : Int) * (m : Int) = (s : Int) := by rw [← hnm]; exact (Int.natCast_mul n m).symm
  have hw : wrap64 ((n : Int) * (m : Int)) = (s : Int) := by rw [hp, IntWalk.wrap64_in _ ⟨by omega, by omega⟩]
  have HP := Lib.hid hp
  clear hp
  go_enter Tryd.func11, Tryd.ntmps11
  go_wp2_with fail
  go_ret
  refine ⟨ret_int ?_, by go_grown⟩
  exact HP.out
end Go.Proofs.YtianmmjjcegkjaaDoor
