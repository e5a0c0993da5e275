import Derived.LoopN
import Derived.BigRegion
import Derived.RegionTactic
import Derived.Test.YtelchpdlfedleaaS6
import Derived.Test.YtelchpdlfedleaaZd
namespace Go.Proofs.Ytelchpdlfedleaa
open Go.RowKit
set_option maxRecDepth 4000
def zmove : Array Value := #[.int .i64 0, .int .i64 0, .int .i64 0]
theorem zmove_size : zmove.size = 3 := rfl
theorem zmove_one : zmove.all (·.oneCell') = true := by simp [zmove, Value.oneCell']
theorem blkMv : Blk 64 3 := ⟨.inr ⟨_, _, Try.underlying64⟩, by kernel_rfl⟩
def mvA (im : List (List Int)) (n i : Nat) : Array Value := spA3 (mv im n i 0) (mv im n i 1) (mv im n i 2)
theorem heap3 (w : World) (o o' o'' : Obj) : (((w.alloc o).alloc o').alloc o'').heap[w.heap.size]? = some o ∧ (((w.alloc o).alloc o').alloc o'').heap[w.heap.size + 1]? = some o' ∧ (((w.alloc o).alloc o').alloc o'').heap[w.heap.size + 1 + 1]? = some o'' := by
  refine ⟨?_, ?_, ?_⟩
  · rw [Below.heap_alloc _ _ _ (by simp; omega), Below.heap_alloc _ _ _ (by simp)]
    exact heap_alloc_new w _
  · rw [Below.heap_alloc _ _ _ (by simp)]
    have e := heap_alloc_new (w.alloc o) o'
    rwa [World.size_alloc] at e
  · have e := heap_alloc_new ((w.alloc o).alloc o') o''
    rwa [World.size_alloc, World.size_alloc] at e
set_option maxHeartbeats 1600000 in
theorem moveAt_any (n i : Nat) (h1 : 1 ≤ n) (h2 : n ≤ 5) (hi : i < Pr.cnt n) (im : List (List Int)) (hy : imB n im = true) (w : World) :
    Calls Try.prog 60 #[.agg (mapA n im), .int .i64 i] w fun e w' => e = .returned (.agg (mvA im n i)) ∧ Below w.heap.size w w' := by
  have hc := cnt21 n h2
  have hi21 : (i : Int) < 21 := by omega
  have HM := Lib.hid (fun w => spotAt_any n i h1 (by omega) (by omega) w)
  have q0 := iq_bd hy i 0 hi (by omega)
  have q1 := iq_bd hy i 1 hi (by omega)
  have q2 := iq_bd hy i 2 hi (by omega)
  have p0 := pq_bd n i 0 (by omega) hi (by omega)
  have p1 := pq_bd n i 1 (by omega) hi (by omega)
  have p2 := pq_bd n i 2 (by omega) hi (by omega)
  have HV : Hid (mvA im n i = spA3 (iq im i 0 - 3 * pq n i 0) (iq im i 1 - 3 * pq n i 1) (iq im i 2 - 3 * pq n i 2)) := Lib.hid rfl
  have e0 : (n : Int) - (Pr.R i : Nat) = pq n i 0 := rfl
  have e1 : (Pr.R i : Int) - (Pr.C i : Nat) = pq n i 1 := rfl
  have e2 : ((Pr.C i : Nat) : Int) = pq n i 2 := rfl
  rw [e0, e1, e2] at HM
  have HC : Hid ((mapA n im)[0]? = some (.int .i64 n) ∧ (mapA n im)[1 + i * 3]? = some (.int .i64 (iq im i 0)) ∧ (mapA n im)[1 + i * 3 + 1]? = some (.int .i64 (iq im i 1)) ∧ (mapA n im)[1 + i * 3 + 2]? = some (.int .i64 (iq im i 2))) := Lib.hid ⟨mapF_zero _ _, mapA_at n im i 0 (by omega) (by omega), mapA_at n im i 1 (by omega) (by omega), mapA_at n im i 2 (by omega) (by omega)⟩
  generalize mapA n im = fA at *
  generalize iq im i 0 = x0 at *
  generalize iq im i 1 = x1 at *
  generalize iq im i 2 = x2 at *
  generalize pq n i 0 = y0 at *
  generalize pq n i 1 = y1 at *
  generalize pq n i 2 = y2 at *
  obtain ⟨w3, hw3⟩ : ∃ w3, w3 = ((w.alloc (.cells fA 53)).alloc (.cells #[.int .i64 0, .int .i64 0, .int .i64 0] 64)).alloc (.cells #[.int .i64 0, .int .i64 0, .int .i64 0] 64) := ⟨_, rfl⟩
  obtain ⟨g0, g1, g2⟩ := heap3 w (.cells fA 53) (.cells #[.int .i64 0, .int .i64 0, .int .i64 0] 64) (.cells #[.int .i64 0, .int .i64 0, .int .i64 0] 64)
  rw [← hw3] at g0 g1 g2
  have hz3 : w3.heap.size = w.heap.size + 3 := by rw [hw3]; simp
  have hb3 : Below w.heap.size w w3 := by rw [hw3]; exact balloc (balloc (balloc (Below.refl _ _) _) _) _
  have HW3 := Lib.hid hw3
  have cm := HC.out.1
  have hq0 : 0 ≤ x0 := q0.1
  have hq0' : x0 ≤ 15 := by omega
  have hq1 : 0 ≤ x1 := q1.1
  have hq1' : x1 ≤ 15 := by omega
  have hq2 : 0 ≤ x2 := q2.1
  have hq2' : x2 ≤ 15 := by omega
  have hp0 : 0 ≤ y0 := p0.1
  have hp0' : y0 ≤ 5 := by omega
  have hp1 : 0 ≤ y1 := p1.1
  have hp1' : y1 ≤ 5 := by omega
  have hp2 : 0 ≤ y2 := p2.1
  have hp2' : y2 ≤ 5 := by omega
  clear hw3 hy e0 e1 e2 q0 q1 q2 p0 p1 p2
  have i0 : ∀ w, (Instr.index 50 (.agg #[.int .i64 y0, .int .i64 y1, .int .i64 y2]) (.int .i64 0)).run Try.prog w = .ok (.int .i64 y0) w := fun _ => by kernel_rfl
  have i1 : ∀ w, (Instr.index 50 (.agg #[.int .i64 y0, .int .i64 y1, .int .i64 y2]) (.int .i64 1)).run Try.prog w = .ok (.int .i64 y1) w := fun _ => by kernel_rfl
  have i2 : ∀ w, (Instr.index 50 (.agg #[.int .i64 y0, .int .i64 y1, .int .i64 y2]) (.int .i64 2)).run Try.prog w = .ok (.int .i64 y2) w := fun _ => by kernel_rfl
  go_enter Try.func60, Try.ntmps60
  go_wp2_with fail
  rw [← HW3.out]
  refine (HM.out _).mono ?_
  rintro e w4 ⟨rfl, hb4⟩
  have hB4 := hb3.trans (hb4.mono (by omega))
  have G0 := (hb4.block w.heap.size (by omega)).trans g0
  have G1 := (hb4.block (w.heap.size + 1) (by omega)).trans g1
  have G2 := (hb4.block (w.heap.size + 1 + 1) (by omega)).trans g2
  have c0 := blk_cell G0 _ _ HC.out.2.1
  have c1 := blk_cell G0 _ _ HC.out.2.2.1
  have c2 := blk_cell G0 _ _ HC.out.2.2.2
  have a0 := blk_cell G2 0 (.int .i64 0) rfl
  have a1 := blk_cell G2 1 (.int .i64 0) rfl
  have a2 := blk_cell G2 2 (.int .i64 0) rfl
  have f0 := frozen_of_row w4 (w.heap.size + 1 + 1) 0 _ _ G2
  have f1 := frozen_of_row w4 (w.heap.size + 1 + 1) 1 _ _ G2
  have f2 := frozen_of_row w4 (w.heap.size + 1 + 1) 2 _ _ G2
  have r0 := blk_cell G1 0 (.int .i64 0) rfl
  have r1 := blk_cell G1 1 (.int .i64 0) rfl
  have r2 := blk_cell G1 2 (.int .i64 0) rfl
  have t0 := frozen_of_row w4 (w.heap.size + 1) 0 _ _ G1
  have t1 := frozen_of_row w4 (w.heap.size + 1) 1 _ _ G1
  have t2 := frozen_of_row w4 (w.heap.size + 1) 2 _ _ G1
  clear g0 g1 g2 cm hb4 G0 G2
  go_wp2_with fail
  go_rounds 4
  have hgF : ((((((w4.setCell ⟨w.heap.size + 1 + 1, 0, none⟩ (.int .i64 (x0 - 3 * y0))).setCell ⟨w.heap.size + 1 + 1, 1, none⟩ (.int .i64 (x1 - 3 * y1))).setCell ⟨w.heap.size + 1 + 1, 2, none⟩ (.int .i64 (x2 - 3 * y2))).setCell ⟨w.heap.size + 1, 0, none⟩ (.int .i64 (x0 - 3 * y0))).setCell ⟨w.heap.size + 1, 1, none⟩ (.int .i64 (x1 - 3 * y1))).setCell ⟨w.heap.size + 1, 2, none⟩ (.int .i64 (x2 - 3 * y2))).heap[w.heap.size + 1]? = some (.cells (spA3 (x0 - 3 * y0) (x1 - 3 * y1) (x2 - 3 * y2)) 64 (0, 0)) :=
    heap_setCell_same _ _ 2 _ _ _ (heap_setCell_same _ _ 1 _ _ _ (heap_setCell_same _ _ 0 _ _ _ (((heap_setCell_other _ ⟨w.heap.size + 1 + 1, 2, none⟩ (w.heap.size + 1) _ (by simp)).trans ((heap_setCell_other _ ⟨w.heap.size + 1 + 1, 1, none⟩ (w.heap.size + 1) _ (by simp)).trans (heap_setCell_other _ ⟨w.heap.size + 1 + 1, 0, none⟩ (w.heap.size + 1) _ (by simp)))).trans G1)))
  refine bodyPost_ret (results_blk1 blkMv rfl _ _ (w.heap.size + 1) (spA3 (x0 - 3 * y0) (x1 - 3 * y1) (x2 - 3 * y2)) rfl hgF rfl) rfl ⟨by rw [HV.out], ?_⟩
  repeat refine Below.setCell ?_ ?_ _
  · exact hB4
  all_goals (dsimp only; omega)
theorem spot_args (n i : Nat) : (Value.agg #[.int .i64 ((n : Int) - (Pr.R i : Nat)), .int .i64 ((Pr.R i : Int) - (Pr.C i : Nat)), .int .i64 (Pr.C i : Nat)]) = .agg (spA3 (pq n i 0) (pq n i 1) (pq n i 2)) := rfl
theorem index_pt (n i : Nat) (h2 : n ≤ 5) (hi : i < Pr.cnt n) (w : World) :
    Calls Try.prog 116 #[.agg #[.int .i64 n], .agg (spA3 (pq n i 0) (pq n i 1) (pq n i 2))] w fun e w' => e = .returned (.int .i64 i) ∧ Below w.heap.size w w' := by
  have hc := cnt21 n h2
  have p0 := pq_bd n i 0 (by omega) hi (by omega)
  have p2 := pq_bd n i 2 (by omega) hi (by omega)
  have h := indexOf_any n (pq n i 0) (pq n i 1) (pq n i 2) (by omega) p0.1 p0.2 p2.1 (by omega) w
  have e : ((Pr.T ((n : Int) - pq n i 0).toNat : Nat) : Int) + pq n i 2 = i := by
    have hall := (Pr.RC_all i (by omega)).1
    have : ((n : Int) - pq n i 0).toNat = Pr.R i := by simp [pq, pt]; omega
    rw [this]
    simp only [pq, pt, List.getD_cons_succ, List.getD_cons_zero]
    omega
  rw [e] at h
  exact h
end Go.Proofs.Ytelchpdlfedleaa
