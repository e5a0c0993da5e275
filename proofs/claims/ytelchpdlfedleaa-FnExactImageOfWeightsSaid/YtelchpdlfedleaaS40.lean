import Derived.LoopN
import Derived.BigRegion
import Derived.RegionTactic
import Derived.Test.YtelchpdlfedleaaS37
import Derived.Test.YtelchpdlfedleaaS29
import Derived.Test.YtelchpdlfedleaaS15s
namespace Go.Proofs.Ytelchpdlfedleaa
open Go.RowKit
set_option maxRecDepth 4000
set_option maxHeartbeats 800000 in
theorem min3o_any (x y z : Int) (b off cap : Nat) (w : World) (c0 : w.cell? ⟨b, off, none⟩ = some (.int .i64 x)) (c1 : w.cell? ⟨b, off + 1, none⟩ = some (.int .i64 y)) (c2 : w.cell? ⟨b, off + 2, none⟩ = some (.int .i64 z)) :
    Calls Try.prog 104 #[.slice (some ⟨b, off, none⟩) 3 cap] w fun e w' => e = .returned (.int .i64 (min (min x y) z)) ∧ w = w' := by
  go_enter Try.func104, Try.ntmps104
  go_wp2_with fail
  go_rounds 3
  all_goals (go_ret; exact ⟨ret_int (by omega), rfl⟩)
set_option maxHeartbeats 800000 in
theorem max3o_any (x y z : Int) (b off cap : Nat) (w : World) (c0 : w.cell? ⟨b, off, none⟩ = some (.int .i64 x)) (c1 : w.cell? ⟨b, off + 1, none⟩ = some (.int .i64 y)) (c2 : w.cell? ⟨b, off + 2, none⟩ = some (.int .i64 z)) :
    Calls Try.prog 105 #[.slice (some ⟨b, off, none⟩) 3 cap] w fun e w' => e = .returned (.int .i64 (max (max x y) z)) ∧ w = w' := by
  go_enter Try.func105, Try.ntmps105
  go_wp2_with fail
  go_rounds 3
  all_goals (go_ret; exact ⟨ret_int (by omega), rfl⟩)
theorem run_build0_wt (w : World) : (Instr.build 74 #[]).run Try.prog w = .ok (.agg zspot) w := by kernel_rfl
theorem eqWt (a b c d e f : Int) (w : World) : (Op.equalIn 10000 74 (.agg #[.int .i64 a, .int .i64 b, .int .i64 c]) (.agg #[.int .i64 d, .int .i64 e, .int .i64 f])).run Try.prog w = .ok (a == d && (b == e && c == f)) w := by
  have u3 := Try.underlying3
  have a3 := Try.isAgg3
  have z3 := Try.sizeOf3
  rw [show (10000 : Nat) = 9999 + 1 from rfl, Op.equalIn]
  simp only [Sem.run_bind, run_underlying Try.underlying74, Result.andThen_ok]
  simp only [Std.Legacy.Range.forIn_eq_forIn_range', Std.Legacy.Range.size, Nat.sub_zero, Nat.add_sub_cancel, Nat.div_one, List.range'_succ, List.range'_zero, List.forIn_cons, List.forIn_nil]
  go_simp
  by_cases h1 : a = d <;> by_cases h2 : b = e <;> by_cases h3 : c = f <;> simp [h1, h2, h3]
/-- The weights that a list gives. -/
def wtV (xs : List Int) : Array Value := if gvB xs then spA3 (wf xs 0) (wf xs 1) (wf xs 2) else zspot
theorem wtV_no {xs : List Int} (h : gvB xs = false) : wtV xs = zspot := by rw [wtV, h]; rfl
theorem wtV_yes {xs : List Int} (h : gvB xs = true) : wtV xs = spA3 (wf xs 0) (wf xs 1) (wf xs 2) := by rw [wtV, h]; rfl
theorem exec_neq_wt {o : Oper} {a : Act} {w : World} (x y : Operand) (ho : o.op = .binOp .neq 74 x y 74) (v0 v1 v2 : Int) (b : Bool) (hx : a.eval x = .agg (spA3 v0 v1 v2)) (hy : a.eval y = .agg zspot)
    (hg : Try.prog.eqGuardType Try.prog.depth 74 = false) (hq : (Op.equalIn 10000 74 (.agg (spA3 v0 v1 v2)) (.agg zspot)).run Try.prog w = .ok b w) : (execOp a.eval o).run Try.prog w = .ok (.value (.bool (!b))) w := by
  unfold execOp
  simp only [ho, hx, hy]
  simp only [Sem.run_bind, run_eqGuard_agg (hm := hg), Result.andThen_ok, run_neq_struct, hq]
  rfl
theorem exec_build0_wt {o : Oper} {a : Act} {w : World} (ho : o.op = .build 74 #[]) : (execOp a.eval o).run Try.prog w = .ok (.value (.agg zspot)) w := by
  unfold execOp
  simp [ho, run_build0_wt]
theorem gv_three (xs : List Int) (h3 : xs.length = 3) (hm : 0 ≤ min (min (wf xs 0) (wf xs 1)) (wf xs 2)) (hM : max (max (wf xs 0) (wf xs 1)) (wf xs 2) ≤ 1000000) : gvB xs = !(wf xs 0 == 0 && (wf xs 1 == 0 && wf xs 2 == 0)) := by
  have hA : allB 0 1000000 xs = true := allB_yes 0 1000000 xs (fun j hj => by
    rcases (by omega : j = 0 ∨ j = 1 ∨ j = 2) with rfl | rfl | rfl
    · change 0 ≤ wf xs 0 ∧ wf xs 0 ≤ 1000000; omega
    · change 0 ≤ wf xs 1 ∧ wf xs 1 ≤ 1000000; omega
    · change 0 ≤ wf xs 2 ∧ wf xs 2 ≤ 1000000; omega)
  have e : gvB xs = decide (0 < wf xs 0 + wf xs 1 + wf xs 2) := by simp [gvB, hA, h3, wf]
  rw [e, Bool.eq_iff_iff]
  simp only [decide_eq_true_eq, Bool.not_eq_true', Bool.and_eq_false_iff, beq_eq_false_iff_ne, ne_eq]
  omega
theorem gv_bad (xs : List Int) (_ : xs.length = 3) (h : min (min (wf xs 0) (wf xs 1)) (wf xs 2) < 0 ∨ 1000000 < max (max (wf xs 0) (wf xs 1)) (wf xs 2)) : gvB xs = false := by
  rw [Bool.eq_false_iff]
  intro hh
  obtain ⟨-, hb, -⟩ := gvB_yes hh
  have h0 := hb 0 (by omega)
  have h1 := hb 1 (by omega)
  have h2 := hb 2 (by omega)
  omega
set_option maxHeartbeats 1600000 in
theorem weightsOf_any (xs : List Int) (a : Option Addr) (cap B : Nat) (w : World) (h : RdS w B a xs) (hB : B ≤ w.heap.size) :
    Calls Try.prog 80 #[.slice a xs.length cap] w fun e w' => e = .returned (.tuple #[.agg (wtV xs), .bool (gvB xs)]) ∧ Below w.heap.size w w' := by
  obtain ⟨b, off, hr, hrb⟩ := h
  obtain ⟨w1, hw1⟩ : ∃ w1, w1 = w.alloc (.cells zspot 74) := ⟨_, rfl⟩
  have hb1 : Below w.heap.size w w1 := by rw [hw1]; exact balloc (Below.refl _ _) _
  have hg1 : w1.heap[w.heap.size]? = some (.cells zspot 74 (0, 0)) := by rw [hw1]; exact heap_alloc_new w _
  have hz1 : w1.heap.size = w.heap.size + 1 := by rw [hw1]; simp
  have HW1 := Lib.hid hw1
  clear hw1
  by_cases hl : xs.length = 3
  · obtain ⟨ha, c0⟩ := hr.2 0 (by omega)
    have c1 := (hr.2 1 (by omega)).2
    have c2 := (hr.2 2 (by omega)).2
    subst ha
    rw [Nat.add_zero] at c0
    have hrb' : b < w.heap.size := by omega
    replace c0 := (hb1.cell (p := ⟨b, off, none⟩) hrb').trans c0
    replace c1 := (hb1.cell (p := ⟨b, off + 1, none⟩) hrb').trans c1
    replace c2 := (hb1.cell (p := ⟨b, off + 2, none⟩) hrb').trans c2
    have HMIN := Lib.hid (min3o_any (wf xs 0) (wf xs 1) (wf xs 2) b off cap w1 c0 c1 c2)
    have HMAX := Lib.hid (max3o_any (wf xs 0) (wf xs 1) (wf xs 2) b off cap w1 c0 c1 c2)
    replace c0 : w1.cell? ⟨b, off, none⟩ = some (.int .i64 (wf xs 0)) := c0
    replace c1 : w1.cell? ⟨b, off + 1, none⟩ = some (.int .i64 (wf xs 1)) := c1
    replace c2 : w1.cell? ⟨b, off + 2, none⟩ = some (.int .i64 (wf xs 2)) := c2
    have HBAD := Lib.hid (gv_bad xs hl)
    have HOK := Lib.hid (gv_three xs hl)
    have HNO := Lib.hid (fun h => wtV_no (xs := xs) h)
    have HYES := Lib.hid (fun h => wtV_yes (xs := xs) h)
    have hl3 : 3 ≤ xs.length := by omega
    rw [hl]
    clear hr hrb hl
    generalize wf xs 0 = x at *
    generalize wf xs 1 = y at *
    generalize wf xs 2 = z at *
    generalize hm : min (min x y) z = m at *
    generalize hM : max (max x y) z = M at *
    by_cases h1 : m < 0
    · have hV := Lib.hid (HBAD.out (.inl h1))
      have hd1 : decide (m < 0) = true := by simpa using h1
      clear h1 hm hM
      go_enter Try.func80, Try.ntmps80
      go_wp2_with ((with_reducible refine alloc_blk zspot run_alloc_wt rfl rfl ?_); simp only [Act.put, List.setIfInBounds_toArray, List.set_cons_zero, List.set_cons_succ])
      rw [← HW1.out]
      refine HMIN.out.mono ?_
      rintro e w' ⟨rfl, rfl⟩
      go_wp2_with (first | (with_reducible refine build0_blk zspot run_build0_wt rfl rfl ?_) | ((with_reducible refine store_blk blkWt rfl _ _ rfl (w.heap.size) (zspot) (zspot) ?_ ?_ hg1 (zspot_size) (zspot_size) (zspot_one) (w.heap.size) (by omega) ?_); exact rfl; exact rfl; intro w2 hg2 hb2 hk2 hz2))
      refine bodyPost_ret (results_blk blkWt rfl _ _ (w.heap.size) zspot _ rfl rfl hg2 zspot_size) rfl ?_
      exact ⟨by rw [hV.out, HNO.out hV.out]; rfl, hb1.trans hb2⟩
    · have hd1 : decide (m < 0) = false := by simpa using h1
      by_cases h2 : 1000000 < M
      · have hV := Lib.hid (HBAD.out (.inr h2))
        have hd2 : decide (1000000 < M) = true := by simpa using h2
        clear h1 h2 hm hM
        go_enter Try.func80, Try.ntmps80
        go_wp2_with ((with_reducible refine alloc_blk zspot run_alloc_wt rfl rfl ?_); simp only [Act.put, List.setIfInBounds_toArray, List.set_cons_zero, List.set_cons_succ])
        rw [← HW1.out]
        refine HMIN.out.mono ?_
        rintro e w' ⟨rfl, rfl⟩
        go_wp2_with fail
        refine HMAX.out.mono ?_
        rintro e w' ⟨rfl, rfl⟩
        go_wp2_with (first | (with_reducible refine build0_blk zspot run_build0_wt rfl rfl ?_) | ((with_reducible refine store_blk blkWt rfl _ _ rfl (w.heap.size) (zspot) (zspot) ?_ ?_ hg1 (zspot_size) (zspot_size) (zspot_one) (w.heap.size) (by omega) ?_); exact rfl; exact rfl; intro w2 hg2 hb2 hk2 hz2))
        refine bodyPost_ret (results_blk blkWt rfl _ _ (w.heap.size) zspot _ rfl rfl hg2 zspot_size) rfl ?_
        exact ⟨by rw [hV.out, HNO.out hV.out]; rfl, hb1.trans hb2⟩
      · have hd2 : decide (1000000 < M) = false := by simpa using h2
        have hV := Lib.hid (HOK.out (by omega) (by omega))
        clear h1 h2
        have hgt : Try.prog.eqGuardType Try.prog.depth 74 = false := by kernel_rfl
        have q1 := fun w => eqWt x y z 0 0 0 w
        have hz3 : (x == 0 && (y == 0 && z == 0)) = true → spA3 x y z = zspot := fun hh => by
          simp only [Bool.and_eq_true, beq_iff_eq] at hh
          obtain ⟨rfl, rfl, rfl⟩ := hh
          rfl
        have HFIN : Hid (wtV xs = spA3 x y z) := Lib.hid (by
          cases hq : (x == 0 && (y == 0 && z == 0))
          · exact HYES.out (by rw [hV.out, hq]; rfl)
          · rw [HNO.out (by rw [hV.out, hq]; rfl), hz3 hq])
        clear hz3 hm hM
        have harr := run_arr3 Try.underlying74 (some ⟨b, off, none⟩) 3 cap (Nat.le_refl _)
        generalize (x == 0 && (y == 0 && z == 0)) = bb at *
        go_enter Try.func80, Try.ntmps80
        go_wp2_with ((with_reducible refine alloc_blk zspot run_alloc_wt rfl rfl ?_); simp only [Act.put, List.setIfInBounds_toArray, List.set_cons_zero, List.set_cons_succ])
        rw [← HW1.out]
        refine HMIN.out.mono ?_
        rintro e w' ⟨rfl, rfl⟩
        go_wp2_with fail
        refine HMAX.out.mono ?_
        rintro e w' ⟨rfl, rfl⟩
        go_wp2_with fail
        have hg2 := heap_alloc_new w1 (.cells (spA3 x y z) 74)
        obtain ⟨w2, hw2⟩ : ∃ w2, w2 = w1.alloc (.cells (spA3 x y z) 74) := ⟨_, rfl⟩
        have hg02 : w2.heap[w.heap.size]? = some (.cells zspot 74 (0, 0)) := by rw [hw2, Below.heap_alloc _ _ _ (by omega)]; exact hg1
        have hB2 : Below w.heap.size w w2 := by rw [hw2]; exact balloc hb1 _
        have hz2 : w2.heap.size = w1.heap.size + 1 := by rw [hw2]; simp
        rw [← hw2, hz1] at hg2
        simp only [spA3] at hw2
        rw [← hw2]
        clear hw2
        refine wp_region_mix (fun w' => w'.heap[w.heap.size + 1]? = some (.cells (spA3 x y z) 74 (0, 0))) [4] [0, 1, 2, 3, 4, 5] (by kernel_rfl) (by kernel_rfl) (fun _ _ d _ _ h => by cases d <;> exact h) (by kernel_rfl) rfl hg2 ?_
        refine mix_take 0 _ (.agg (spA3 x y z)) rfl rfl rfl (some 22) rfl (fun w' hw' => exec_row _ _ rfl (w.heap.size + 1) rfl (spA3 x y z) (blk_load blkWt w' _ _ hw' (spA3_size _ _ _))) ?_
        simp only [Act.put, List.setIfInBounds_toArray, List.set_cons_zero, List.set_cons_succ]
        refine mix_take 1 _ (.agg (spA3 x y z)) rfl rfl rfl (some 23) rfl (fun w' hw' => exec_row _ _ rfl (w.heap.size + 1) rfl (spA3 x y z) (blk_load blkWt w' _ _ hw' (spA3_size _ _ _))) ?_
        simp only [Act.put, List.setIfInBounds_toArray, List.set_cons_zero, List.set_cons_succ]
        refine mix_take 2 _ (.agg zspot) rfl rfl rfl (some 24) rfl (fun w' hw' => exec_build0_wt rfl) ?_
        simp only [Act.put, List.setIfInBounds_toArray, List.set_cons_zero, List.set_cons_succ]
        refine mix_take 3 _ (.bool (!bb)) rfl rfl rfl (some 25) rfl (fun w' hw' => exec_neq_wt _ _ rfl x y z bb rfl rfl hgt (q1 w')) ?_
        simp only [Act.put, List.setIfInBounds_toArray, List.set_cons_zero, List.set_cons_succ]
        refine mix_store_blk blkWt 4 _ rfl rfl rfl _ _ rfl none rfl (w.heap.size) (spA3 x y z) zspot rfl rfl hg02 zspot_size (spA3_size _ _ _) (spA3_one _ _ _) w.heap.size (Nat.le_refl _) (fun w3 hg3 hb3 hk3 hz3 => ⟨(hk3 _ (by omega)).trans hg2, ?_⟩)
        simp only [Act.put]
        have hB3 : Below w.heap.size w w3 := (hB2.drew).trans hb3
        refine mix_take 5 _ ?_ rfl rfl rfl (some 3) rfl (fun w' hw' => ?hv5) ?_
        case hv5 =>
          go_simp
          with_reducible rfl
        simp only [Act.put, List.setIfInBounds_toArray, List.set_cons_zero, List.set_cons_succ]
        refine mix_done ?_
        go_wp2_with fail
        refine bodyPost_ret (results_blk blkWt rfl _ _ (w.heap.size) (spA3 x y z) _ rfl rfl hg3 (spA3_size _ _ _)) rfl ?_
        exact ⟨by rw [hV.out, HFIN.out]; rfl, hB3⟩
  · have hne : ((xs.length : Int) != 3) = true := by simp; omega
    have hV : Hid (gvB xs = false) := Lib.hid (by simp [gvB, hl])
    have HNO := Lib.hid (fun h => wtV_no (xs := xs) h)
    have hm := hr.1
    unfold maxLen at hm
    clear hr hl
    go_enter Try.func80, Try.ntmps80
    go_wp2_with (first | ((with_reducible refine alloc_blk zspot run_alloc_wt rfl rfl ?_); simp only [Act.put, List.setIfInBounds_toArray, List.set_cons_zero, List.set_cons_succ]; rw [← HW1.out]) | (with_reducible refine build0_blk zspot run_build0_wt rfl rfl ?_) | ((with_reducible refine store_blk blkWt rfl _ _ rfl (w.heap.size) (zspot) (zspot) ?_ ?_ hg1 (zspot_size) (zspot_size) (zspot_one) (w.heap.size) (by omega) ?_); exact rfl; exact rfl; intro w2 hg2 hb2 hk2 hz2))
    refine bodyPost_ret (results_blk blkWt rfl _ _ (w.heap.size) zspot _ rfl rfl hg2 zspot_size) rfl ?_
    exact ⟨by rw [hV.out, HNO.out hV.out]; rfl, hb1.trans hb2⟩
end Go.Proofs.Ytelchpdlfedleaa
