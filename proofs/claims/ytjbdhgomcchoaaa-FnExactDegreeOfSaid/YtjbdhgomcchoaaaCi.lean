import Derived.Test.YtjbdhgomcchoaaaCe
import Derived.Test.YtjbdhgomcchoaaaIdx
namespace Go.Proofs.Ytjbdhgomcchoaaa
open Go.RowKit
/-- A list of cells as the program keeps it: three numbers each. -/
def TrioV (w : World) (base : Nat) (v : Value) (cs : List (List Int)) : Prop := w.ownsRow base 57 3 v cs.length (cs.flatten.map (Value.int .i64))
theorem trioInfo : (Try.prog.info? 57).map (fun i => (i.zero, i.size, i.bytes)) = some (some (.agg #[.int .i64 0, .int .i64 0, .int .i64 0]), 3, 24) := by kernel_rfl
theorem append_trio {ops : Array Oper} {rest : List Oper} {o : Oper} {a : Act} {Q : Exit → Act → World → Prop} (base g : Nat) (w0 : World) (v : Value) (cs : List (List Int)) (x y z : Int)
    (hgd : o.guard = none) (s t : Operand) (ho : o.op = .call { callee := .builtin .append, args := #[s, t], argTypes := #[54, 54] })
    (hs : a.eval s = v) (hx : a.eval t = .slice (some ⟨g, 0, none⟩) 1 1) (hg : g = w0.heap.size)
    (hc : TrioV w0 base v cs) (hbase : base ≤ w0.heap.size) (hlen : cs.length < 1000000000)
    (h : ∀ v' w', TrioV w' base v' (cs ++ [[x, y, z]]) → Below base w0 w' → wpList Try.prog ops Q rest (a.put o.dst v') w') :
    wpList Try.prog ops Q (o :: rest) a (w0.alloc (.cells #[.int .i64 x, .int .i64 y, .int .i64 z] 57)) := by
  subst hg
  obtain ⟨i0, hi, hz0, hz1, hz2⟩ := info_parts trioInfo
  refine wpList_append_own _ hgd s t 54 ho base 57 i0 _ 3 24 Try.underlying54 hi hz0 hz1 hz2 rfl (by decide) v cs.length _ hs (World.ownsRow.alloc hc _) ⟨w0.heap.size, 0, none⟩ 1 1 [.int .i64 x, .int .i64 y, .int .i64 z] hx rfl ?_ ?_ ?_ ?_ ?_ ?_
  · intro j u hj
    have e : (Addr.add ⟨w0.heap.size, 0, none⟩ j : Addr) = ⟨w0.heap.size, j, none⟩ := by rw [Addr.add_lit, Nat.zero_add]
    rw [e, cell_of_row _ _ _ _ _ (0, 0) (heap_alloc_new w0 _)]
    simpa using hj
  · intro u hu
    simp only [List.mem_cons, List.not_mem_nil, or_false] at hu
    rcases hu with rfl | rfl | rfl <;> rfl
  · unfold maxLen; omega
  · omega
  · simp; omega
  · intro v' w1 hown' hgrow _
    refine h v' w1 (by simpa [TrioV] using hown') ?_
    exact ((Below.refl base w0).alloc hbase _).grown hgrow (by simp; omega) (fun k hk => (World.ownsRow.lt hc k hk).1)
/-- The cells of a row, as the program lists them. -/
def cr (r m : Nat) : List (List Int) := (List.range m).flatMap (fun (q : Nat) => (if q < r then [[((Pr.T r + q : Nat) : Int), ((Pr.T r + q + 1 : Nat) : Int), ((Pr.T r + q + r + 2 : Nat) : Int)]] else []) ++ [[((Pr.T r + q : Nat) : Int), ((Pr.T r + q + r + 1 : Nat) : Int), ((Pr.T r + q + r + 2 : Nat) : Int)]])
def ci (m : Nat) : List (List Int) := (List.range m).flatMap (fun r => cr r (r + 1))
theorem cr_succ (r m : Nat) : cr r (m + 1) = cr r m ++ ((if m < r then [[((Pr.T r + m : Nat) : Int), ((Pr.T r + m + 1 : Nat) : Int), ((Pr.T r + m + r + 2 : Nat) : Int)]] else []) ++ [[((Pr.T r + m : Nat) : Int), ((Pr.T r + m + r + 1 : Nat) : Int), ((Pr.T r + m + r + 2 : Nat) : Int)]]) := by
  simp only [cr, List.range_succ, List.flatMap_append, List.flatMap_cons, List.flatMap_nil, List.append_nil]
theorem ci_succ (m : Nat) : ci (m + 1) = ci m ++ cr m (m + 1) := by simp [ci, List.range_succ, List.flatMap_append]
theorem cr_len (r m : Nat) : (cr r m).length ≤ 2 * m := by
  induction m with
  | zero => simp [cr]
  | succ m ih => rw [cr_succ]; by_cases h : m < r <;> simp [h] <;> omega
theorem ci_len (m : Nat) : (ci m).length ≤ 2 * m * (m + 1) := by
  induction m with
  | zero => simp [ci]
  | succ m ih =>
    have := cr_len m (m + 1)
    have e : 2 * m * (m + 1) + 2 * (m + 1) ≤ 2 * (m + 1) * (m + 1 + 1) := by
      have h1 : 2 * m * (m + 1) + 2 * (m + 1) = (2 * m + 2) * (m + 1) := by rw [Nat.add_mul]
      rw [h1, show 2 * m + 2 = 2 * (m + 1) by omega]
      exact Nat.mul_le_mul_left _ (by omega)
    rw [ci_succ, List.length_append]; omega
theorem ci_eq : ∀ n, n < 9 → 1 ≤ n → ci n = L1 (nr n) (Pr.cnt n) (Pr.cnt n) := by decide +kernel
end Go.Proofs.Ytjbdhgomcchoaaa
