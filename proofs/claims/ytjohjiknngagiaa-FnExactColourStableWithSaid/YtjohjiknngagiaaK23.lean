import Derived.Maps.AppendAt
import Derived.Deep.DeepAppendRoom
import Derived.Test.YtjohjiknngagiaaK20
namespace Go.Proofs.Ytjohjiknngagiaa
open Go.RowKit
set_option maxRecDepth 4000
theorem own_pre {w : World} {lo g n cap : Nat} {xs ys : List Value} (h : w.ownsRow lo 80 2 (.slice (some ⟨g, 0, none⟩) (n + 1) cap) (n + 1) (xs ++ ys)) (hx : xs.length = n * 2) :
    w.ownsRow lo 80 2 (.slice (some ⟨g, 0, none⟩) n cap) n xs := by
  obtain ⟨h1, h2⟩ := h
  rcases h2 with ⟨hv, -⟩ | ⟨g', cap', cur, hv, hg, hh, hc, hm, hs, ht⟩
  · cases hv
  · simp only [Value.slice.injEq, Option.some.injEq, Addr.mk.injEq, and_true] at hv
    obtain ⟨rfl, -, rfl⟩ := hv
    refine ⟨hx, .inr ⟨g, cap, cur, rfl, hg, hh, by omega, hm, hs, ?_⟩⟩
    have := congrArg (List.take (n * 2)) ht
    rw [List.take_take, Nat.min_eq_left (by omega), ← hx, List.take_left] at this
    rw [← hx]; exact this
/-- One set with its colour more, and what is left of the shorter list when that is given up. -/
theorem run_append_ck (lo : Nat) (ty : TypeId) (w : World) (v : Value) (n : Nat) (xs : List Value) (hown : w.ownsRow lo 80 2 v n xs) (a : Addr) (c : Nat) (x y : Int)
    (c0 : w.cell? (a.add 0) = some (.int .i64 x)) (c1 : w.cell? (a.add 1) = some (.int .i64 y)) (hlo : lo ≤ w.heap.size) (hn : n ≤ 1000) :
    ∃ v' w', (Builtin.append_ #[64, 64] ty #[v, .slice (some a) 1 c]).run Try.prog w = .ok v' w' ∧ w'.ownsRow lo 80 2 v' (n + 1) (xs ++ [.int .i64 x, .int .i64 y]) ∧ w.grownBy w' v.ownBlock ∧
      (v'.ownBlock = v.ownBlock ∨ v'.ownBlock = some w.heap.size) ∧
      ∀ w6 : World, w6.ownsRow lo 80 2 v' (n + 1) (xs ++ [.int .i64 x, .int .i64 y]) → (∀ q, q < w.heap.size → some q ≠ v'.ownBlock → w6.heap[q]? = w'.heap[q]?) → w6.ownsRow lo 80 2 v n xs := by
  obtain ⟨i0, hi, hz0, hz1, hz2⟩ := info_parts csInfo
  have hcells : ∀ j u, ([Value.int .i64 x, Value.int .i64 y] : List Value)[j]? = some u → w.cell? (a.add j) = some u := by
    intro j u hj
    match j, hj with
    | 0, hj => simp at hj; subst hj; exact c0
    | 1, hj => simp at hj; subst hj; exact c1
    | j + 2, hj => simp at hj
  have hone : ∀ u ∈ ([Value.int .i64 x, Value.int .i64 y] : List Value), u.oneCell' = true := by
    intro u hu
    simp only [List.mem_cons, List.not_mem_nil, or_false] at hu
    rcases hu with rfl | rfl <;> rfl
  obtain ⟨v', w', hr, ho', hg', -, hb'⟩ := run_append_own_at (P := Try.prog) w lo 64 ty 80 i0 (.agg #[.int .i64 0, .int .i64 0]) 2 16 Try.underlying63 hi hz0 hz1 hz2 rfl (by decide) v n xs hown a 1 c [.int .i64 x, .int .i64 y] rfl hcells hone (by unfold maxLen; omega) (by omega) hlo
  have back : v'.ownBlock = some w.heap.size → ∀ w6 : World, (∀ q, q < w.heap.size → some q ≠ v'.ownBlock → w6.heap[q]? = w'.heap[q]?) → v.ownBlock ≠ none → (∀ k, v.ownBlock = some k → w'.heap[k]? = w.heap[k]?) → w6.ownsRow lo 80 2 v n xs := by
    intro hnew w6 hk _ hsame
    refine own_keep hown (fun k hk' => ?_)
    have hkl := own_lt hown k hk'
    rw [hk k hkl (by rw [hnew]; simp; omega), hsame k hk']
  rcases id hown.2 with ⟨hv, h0⟩ | ⟨g, cap, cur, hv, hgl, hh, hc, hm, hs, ht⟩
  · subst hv h0
    have hx0 : xs = [] := List.eq_nil_of_length_eq_zero (by simpa using hown.1)
    refine ⟨v', w', hr, ho', hg', hb', fun w6 _ _ => ?_⟩
    rw [hx0]; exact World.ownsRow_nil _ _ _ _
  · subst hv
    by_cases hroom : n + 1 ≤ cap
    · obtain ⟨w2, hr2, ho2, hg2⟩ := run_append_own_spare (P := Try.prog) w lo 64 ty 80 i0 2 Try.underlying63 hi hz1 g n cap xs hown a 1 c [.int .i64 x, .int .i64 y] rfl hcells hone hroom
      exact ⟨_, w2, hr2, ho2, hg2, .inl rfl, fun w6 h6 _ => own_pre h6 hown.1⟩
    · have holds : ∀ j u, xs[j]? = some u → w.cell? ((⟨g, 0, none⟩ : Addr).add j) = some u := hown.cells (g := g) rfl
      have hr2 := run_append_grow (P := Try.prog) w 64 ty 80 i0 (.agg #[.int .i64 0, .int .i64 0]) Try.underlying63 hi hz0 ⟨g, 0, none⟩ n cap xs (by rw [hz1]; exact hown.1) holds a 1 c [.int .i64 x, .int .i64 y] (by rw [hz1]; rfl) hcells (by omega) (by omega) (by rw [hz2]; exact growslice_fits (by omega) (by omega))
      rw [hr2] at hr
      simp only [Result.ok.injEq] at hr
      obtain ⟨hv', hw'⟩ := hr
      have hnew : v'.ownBlock = some w.heap.size := by rw [← hv']; rfl
      have hsame : ∀ k, (Value.slice (some ⟨g, 0, none⟩) n cap).ownBlock = some k → w'.heap[k]? = w.heap[k]? := fun k hk => by
        have hkl := own_lt hown k hk
        rw [← hw']
        exact Below.heap_alloc w.drew _ k hkl
      refine ⟨v', w', by rw [hr2, hv', hw'], ho', hg', .inr hnew, fun w6 _ hk => back hnew w6 hk (by simp [Value.ownBlock]) hsame⟩
end Go.Proofs.Ytjohjiknngagiaa
