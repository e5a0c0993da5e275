import Derived.Test.YtcahecohjmahaaaDoorJd
import Derived.Test.YtcahecohjmahaaaDoorJr
import Derived.Test.YtcahecohjmahaaaDoorJq
import Derived.Test.YtcahecohjmahaaaDoorZa
namespace Go.Proofs.YtcahecohjmahaaaDoor
open Go.RowKit
set_option maxRecDepth 4000
def rm0 : Array Value := #[.int .i64 0, .int .i64 0, .nilFunc]
theorem rm0_one : rm0.all (·.oneCell') = true := by decide +kernel
theorem run_alloc_rim (w : World) : (Instr.alloc 91 true (.tuple #[])).run Tryd.prog w = .ok (.pointer (some ⟨w.heap.size, 0, none⟩)) (w.alloc (.cells rm0 91)) := by kernel_rfl
/-- The closure that tells the player of a place. -/
def ofn (g b : Nat) : Value := .func (.func 122) #[] #[.pointer (some ⟨g, 0, none⟩), .pointer (some ⟨b, 0, none⟩)]
def rimA (N M g b : Nat) : Array Value := #[.int .i64 N, .int .i64 M, ofn g b]
theorem rimA_one (N M g b : Nat) : (rimA N M g b).all (·.oneCell') = true := by simp [rimA, ofn, Value.oneCell']
theorem blkRim : Blk 91 3 := ⟨.inl ⟨_, Tryd.underlying91⟩, by kernel_rfl⟩
/-- What the closure remembers. -/
def RimB (w : World) (N M g b n m : Nat) (xs : List Int) : Prop := w.heap[g]? = some (.cells #[.int .i64 N, .int .i64 M] 72 (0, 0)) ∧ w.heap[b]? = some (.cells (hbL n m xs).toArray 81 (0, 0))
theorem rimB_now {w w' : World} {N M g b n m : Nat} {xs : List Int} (h : RimB w N M g b n m xs) (hb : Below w.heap.size w w') : RimB w' N M g b n m xs :=
  ⟨(hb.block _ (Array.getElem?_eq_some_iff.1 h.1).1).trans h.1, (hb.block _ (Array.getElem?_eq_some_iff.1 h.2).1).trans h.2⟩
set_option maxHeartbeats 1600000 in
theorem withRim_any (N M n m : Nat) (hN : (n : Int) + 2 = N) (hM : (m : Int) + 2 = M) (hn : n ≤ 30) (hm : m ≤ 30) (xs : List Int) (w : World) :
    Calls Tryd.prog 72 #[.agg (hbL n m xs).toArray] w fun e w' => ∃ g b, e = .returned (.agg (rimA N M g b)) ∧ RimB w' N M g b n m xs ∧ Below w.heap.size w w' := by
  have hB0 := balloc (balloc (Below.refl w.heap.size w) (.cells (hbL n m xs).toArray 81)) (.cells rm0 91)
  have hg0 : ((w.alloc (.cells (hbL n m xs).toArray 81)).alloc (.cells rm0 91)).heap[w.heap.size]? = some (.cells (hbL n m xs).toArray 81 (0, 0)) := (Below.heap_alloc _ _ _ (by simp)).trans (heap_alloc_new w _)
  have hr0 : ((w.alloc (.cells (hbL n m xs).toArray 81)).alloc (.cells rm0 91)).heap[w.heap.size + 1]? = some (.cells rm0 91 (0, 0)) := by
    have e := heap_alloc_new (w.alloc (.cells (hbL n m xs).toArray 81)) (.cells rm0 91)
    rwa [World.size_alloc] at e
  have hs0 : ((w.alloc (.cells (hbL n m xs).toArray 81)).alloc (.cells rm0 91)).heap.size = w.heap.size + 2 := by simp
  have q0 := blk_cell hg0 0 (.int .i64 n) rfl
  have q1 := blk_cell hg0 1 (.int .i64 m) rfl
  have hMf : ∀ (fn : Fn) (first cap : Array Value) (w : World), (Instr.makeFunc fn first cap).run Tryd.prog w = .ok (.func fn first cap) w := fun _ _ _ _ => rfl
  go_enter Tryd.func72, Tryd.ntmps72
  go_wp2_with (first
    | ((with_reducible refine alloc_blk rm0 run_alloc_rim rfl rfl ?_); (try simp only [World.size_alloc, Act.put, List.setIfInBounds_toArray, List.set_cons_zero, List.set_cons_succ]); generalize (w.alloc (.cells (hbL n m xs).toArray 81)).alloc (.cells rm0 91) = w1 at hB0 hg0 hr0 hs0 q0 q1 ⊢; have hg2 := (Below.heap_alloc w1 (.cells #[.int .i64 N, .int .i64 M] 72) w.heap.size (by omega)).trans hg0; have hr2 := (Below.heap_alloc w1 (.cells #[.int .i64 N, .int .i64 M] 72) (w.heap.size + 1) (by omega)).trans hr0; have hn2 := heap_alloc_new w1 (.cells #[.int .i64 N, .int .i64 M] 72); rw [hs0] at hn2; have hB2 := balloc hB0 (.cells #[.int .i64 N, .int .i64 M] 72))
    | ((with_reducible refine store_blk blkRim rfl _ _ rfl (w.heap.size + 1) (rimA N M (w.heap.size + 2) w.heap.size) rm0 ?_ ?_ hr2 rfl rfl (rimA_one _ _ _ _) (w.heap.size + 1) (Nat.le_refl _) ?_); exact rfl; exact rfl; intro w3 hg3 hb3 hk3 hs3))
  exact bodyPost_ret (results_blk1 blkRim rfl _ _ (w.heap.size + 1) _ rfl hg3 rfl) rfl ⟨_, _, rfl, ⟨(hk3 _ (by omega)).trans hn2, (hk3 _ (by omega)).trans hg2⟩, hB2.trans (hb3.mono (Nat.le_succ _))⟩
end Go.Proofs.YtcahecohjmahaaaDoor
