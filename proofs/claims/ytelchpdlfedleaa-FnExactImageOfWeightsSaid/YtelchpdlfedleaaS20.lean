import Derived.Test.YtelchpdlfedleaaS19
namespace Go.Proofs.Ytelchpdlfedleaa
open Go.RowKit
set_option maxRecDepth 4000
/-- The areas of a cell as they lie in memory. -/
def arA (im : List (List Int)) (n p q r : Nat) : Array Value := spA3 (ar im n q r) (ar im n r p) (ar im n p q)
theorem arA_size (im : List (List Int)) (n p q r : Nat) : (arA im n p q r).size = 3 := rfl
theorem arA_one (im : List (List Int)) (n p q r : Nat) : (arA im n p q r).all (·.oneCell') = true := spA3_one _ _ _
set_option maxHeartbeats 1600000 in
theorem areasIn_any (n : Nat) (h1 : 1 ≤ n) (h2 : n ≤ 5) (im : List (List Int)) (hy : imB n im = true) (p q r : Nat) (hp : p < Pr.cnt n) (hq : q < Pr.cnt n) (hr : r < Pr.cnt n) (w : World) :
    Calls Try.prog 63 #[.agg (mapA n im), .agg (spA3 (p : Nat) (q : Nat) (r : Nat))] w fun e w' => e = .returned (.agg (arA im n p q r)) ∧ Below w.heap.size w w' := by
  have HK := Lib.hid (fun w => corners_move 60 (.agg (mapA n im)) (fun _ _ => rfl) (p : Nat) (q : Nat) (r : Nat) _ _ _ _ _ _ _ _ _ (fun w => moveAt_any n p h1 h2 hp im hy w) (fun w => moveAt_any n q h1 h2 hq im hy w) (fun w => moveAt_any n r h1 h2 hr im hy w) w)
  have HB := fun i (hi : i < Pr.cnt n) k (hk : k < 3) => mv_bd hy h2 i k hi hk
  have HA := Lib.hid (fun w => areasOf_move (mv im n p 0) (mv im n p 1) (mv im n p 2) (mv im n q 0) (mv im n q 1) (mv im n q 2) (mv im n r 0) (mv im n r 1) (mv im n r 2) (HB p hp 0 (by omega)) (HB p hp 1 (by omega)) (HB q hq 0 (by omega)) (HB q hq 1 (by omega)) (HB r hr 0 (by omega)) (HB r hr 1 (by omega)) w)
  have hmf : ∀ (fn : Fn) (first cap : Array Value) (w : World), (Instr.makeFunc fn first cap).run Try.prog w = .ok (.func fn first cap) w := fun _ _ _ _ => rfl
  obtain ⟨g0, g1, g2⟩ := heap3 w (.cells (mapA n im) 53) (.cells (spA3 (p : Nat) (q : Nat) (r : Nat)) 61) (.cells zspot 71)
  have hz3 : (((w.alloc (.cells (mapA n im) 53)).alloc (.cells (spA3 (p : Nat) (q : Nat) (r : Nat)) 61)).alloc (.cells zspot 71)).heap.size = w.heap.size + 3 := by simp
  have hb3 : Below w.heap.size w (((w.alloc (.cells (mapA n im) 53)).alloc (.cells (spA3 (p : Nat) (q : Nat) (r : Nat)) 61)).alloc (.cells zspot 71)) := balloc (balloc (balloc (Below.refl _ _) _) _) _
  have HV : Hid (arA im n p q r = spA3 (mv im n q 0 * mv im n r 1 - mv im n q 1 * mv im n r 0) (mv im n r 0 * mv im n p 1 - mv im n r 1 * mv im n p 0) (mv im n p 0 * mv im n q 1 - mv im n p 1 * mv im n q 0)) := Lib.hid rfl
  clear hy HB
  go_enter Try.func63, Try.ntmps63
  go_wp2_with (first | ((with_reducible refine alloc_blk zspot run_alloc_ar rfl rfl ?_); simp only [World.size_alloc, Act.put, List.setIfInBounds_toArray, List.set_cons_zero, List.set_cons_succ]) | ((with_reducible refine load_blk blkTr ?_ _ rfl (w.heap.size + 1) ?_ (spA3 (p : Nat) (q : Nat) (r : Nat)) g1 (spA3_size _ _ _) ?_); exact rfl; exact rfl; simp only [Act.put, List.setIfInBounds_toArray, List.set_cons_zero, List.set_cons_succ]) | ((with_reducible refine load_blk blkM ?_ _ rfl (w.heap.size) ?_ (mapA n im) g0 (mapA_size _ _) ?_); exact rfl; exact rfl; simp only [Act.put, List.setIfInBounds_toArray, List.set_cons_zero, List.set_cons_succ]))
  refine (HK.out _).mono ?_
  rintro e w4 ⟨rfl, hb4⟩
  generalize ((w.alloc (.cells (mapA n im) 53)).alloc (.cells (spA3 (p : Nat) (q : Nat) (r : Nat)) 61)).alloc (.cells zspot 71) = w3 at hb4 hz3 hb3 g0 g1 g2
  have G2 := (hb4.block (w.heap.size + 1 + 1) (by omega)).trans g2
  have hB4 := hb3.trans (hb4.mono (by omega))
  have hz4 := hb4.size
  clear hb4 g0 g1 g2
  go_wp2_with fail
  refine (HA.out _).mono ?_
  rintro e w5 ⟨rfl, hb5⟩
  have G3 := (hb5.block (w.heap.size + 1 + 1) (by omega)).trans G2
  have hB5 := bnext hB4 hb5
  clear hb5 G2
  go_wp2_with ((with_reducible refine store_blk blkAr rfl _ _ rfl (w.heap.size + 1 + 1) (arA im n p q r) (zspot) ?_ ?_ G3 (zspot_size) (arA_size _ _ _ _ _) (arA_one _ _ _ _ _) (w.heap.size) (by omega) ?_); exact rfl; exact rfl; intro w6 hg6 hb6 hk6 hz6)
  exact bodyPost_ret (results_blk1 blkAr rfl _ _ (w.heap.size + 1 + 1) _ rfl hg6 (arA_size _ _ _ _ _)) rfl ⟨rfl, hB5.trans hb6⟩
end Go.Proofs.Ytelchpdlfedleaa
