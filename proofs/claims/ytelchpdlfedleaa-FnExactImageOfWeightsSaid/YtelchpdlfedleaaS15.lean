import Derived.BigRegion
import Derived.RegionTactic
import Derived.Test.YtelchpdlfedleaaS13
import Derived.Test.YtelchpdlfedleaaZf
namespace Go.Proofs.Ytelchpdlfedleaa
open Go.RowKit
set_option maxRecDepth 4000
def n9 (x0 x1 x2 x3 x4 x5 x6 x7 x8 : Int) : Array Value := #[.int .i64 x0, .int .i64 x1, .int .i64 x2, .int .i64 x3, .int .i64 x4, .int .i64 x5, .int .i64 x6, .int .i64 x7, .int .i64 x8]
def z9 : Array Value := n9 0 0 0 0 0 0 0 0 0
theorem n9_size (x0 x1 x2 x3 x4 x5 x6 x7 x8 : Int) : (n9 x0 x1 x2 x3 x4 x5 x6 x7 x8).size = 9 := rfl
theorem n9_one (x0 x1 x2 x3 x4 x5 x6 x7 x8 : Int) : (n9 x0 x1 x2 x3 x4 x5 x6 x7 x8).all (·.oneCell') = true := by simp [n9, Value.oneCell']
theorem z9_size : z9.size = 9 := rfl
theorem exec_build3 {o : Oper} {a : Act} {w : World} (ty : TypeId) (i0 i1 i2 : Nat) (y0 y1 y2 : Operand) (ho : o.op = .build ty #[(i0, y0), (i1, y1), (i2, y2)]) (v0 v1 v2 : Value) (h0 : a.eval y0 = v0) (h1 : a.eval y1 = v1) (h2 : a.eval y2 = v2) (v : Value)
    (hr : (Instr.build ty #[(i0, v0), (i1, v1), (i2, v2)]).run Try.prog w = .ok v w) : (execOp a.eval o).run Try.prog w = .ok (.value v) w := by
  unfold execOp
  simp [ho, h0, h1, h2, hr]
theorem blk9_move : Blk 65 9 := ⟨.inr ⟨_, _, Try.underlying65⟩, by kernel_rfl⟩
theorem run_alloc9_move (w : World) : (Instr.alloc 65 true (.tuple #[])).run Try.prog w = .ok (.pointer (some ⟨w.heap.size, 0, none⟩)) (w.alloc (.cells z9 65)) := by kernel_rfl
theorem run_build9_move (x0 x1 x2 x3 x4 x5 x6 x7 x8 : Int) (w : World) : (Instr.build 65 #[(0, .agg (spA3 x0 x1 x2)), (1, .agg (spA3 x3 x4 x5)), (2, .agg (spA3 x6 x7 x8))]).run Try.prog w = .ok (.agg (n9 x0 x1 x2 x3 x4 x5 x6 x7 x8)) w := by kernel_rfl
set_option maxHeartbeats 1600000 in
theorem corners_move (fid : FuncId) (first : Value) (hcf : ∀ (args : Array Value) (w : World), (callFunc fid args).run Try.prog w = .ok (.enter fid args) w) (c0 c1 c2 : Int) (x0 x1 x2 x3 x4 x5 x6 x7 x8 : Int)
    (h0 : ∀ w, Calls Try.prog fid #[first, .int .i64 c0] w fun e w' => e = .returned (.agg (spA3 x0 x1 x2)) ∧ Below w.heap.size w w')
    (h1 : ∀ w, Calls Try.prog fid #[first, .int .i64 c1] w fun e w' => e = .returned (.agg (spA3 x3 x4 x5)) ∧ Below w.heap.size w w')
    (h2 : ∀ w, Calls Try.prog fid #[first, .int .i64 c2] w fun e w' => e = .returned (.agg (spA3 x6 x7 x8)) ∧ Below w.heap.size w w') (w : World) :
    Calls Try.prog 59 #[.agg (spA3 c0 c1 c2), .func (.func fid) #[first] #[]] w fun e w' => e = .returned (.agg (n9 x0 x1 x2 x3 x4 x5 x6 x7 x8)) ∧ Below w.heap.size w w' := by
  have H0 := Lib.hid h0
  have H1 := Lib.hid h1
  have H2 := Lib.hid h2
  have hbd := run_build9_move x0 x1 x2 x3 x4 x5 x6 x7 x8
  obtain ⟨w2, hw2⟩ : ∃ w2, w2 = (w.alloc (.cells (spA3 c0 c1 c2) 61)).alloc (.cells z9 65) := ⟨_, rfl⟩
  obtain ⟨g0, g1⟩ := heap2 w (.cells (spA3 c0 c1 c2) 61) (.cells z9 65)
  rw [← hw2] at g0 g1
  have hb2 : Below w.heap.size w w2 := by rw [hw2]; exact balloc (balloc (Below.refl _ _) _) _
  have hz2 : w2.heap.size = w.heap.size + 2 := by rw [hw2]; simp
  have HW2 := Lib.hid hw2
  clear h0 h1 h2 hw2
  go_enter Try.func59, Try.ntmps59
  go_wp2_with ((with_reducible refine alloc_blk z9 run_alloc9_move rfl rfl ?_); simp only [World.size_alloc, Act.put, List.setIfInBounds_toArray, List.set_cons_zero, List.set_cons_succ])
  rw [← HW2.out]
  refine wp_region_mix (fun w' => w'.heap[w.heap.size]? = some (.cells (spA3 c0 c1 c2) 61 (0, 0))) [3, 7, 11, 13] [0, 1, 2, 4, 5, 6, 8, 9, 10, 3, 7, 11, 12, 13] (by kernel_rfl) (by kernel_rfl) (fun _ _ d _ _ h => by cases d <;> exact h) (by kernel_rfl) rfl g0 ?_
  refine mix_take 0 _ ?_ rfl rfl rfl (some 5) rfl (fun w' hw' => ?hv0) ?_
  case hv0 =>
    go_simp
    with_reducible rfl
  simp only [Act.put, List.setIfInBounds_toArray, List.set_cons_zero, List.set_cons_succ]
  refine mix_take 1 _ ?_ rfl rfl rfl (some 6) rfl (fun w' hw' => ?hv1) ?_
  case hv1 =>
    go_simp
    with_reducible rfl
  simp only [Act.put, List.setIfInBounds_toArray, List.set_cons_zero, List.set_cons_succ]
  refine mix_take 2 _ ?_ rfl rfl rfl (some 7) rfl (fun w' hw' => ?hv2) ?_
  case hv2 =>
    have s0 := blk_cell (w := w') hw' 0 (.int .i64 c0) rfl
    go_simp
    with_reducible rfl
  simp only [Act.put, List.setIfInBounds_toArray, List.set_cons_zero, List.set_cons_succ]
  refine mix_take 4 _ ?_ rfl rfl rfl (some 9) rfl (fun w' hw' => ?hv4) ?_
  case hv4 =>
    go_simp
    with_reducible rfl
  simp only [Act.put, List.setIfInBounds_toArray, List.set_cons_zero, List.set_cons_succ]
  refine mix_take 5 _ ?_ rfl rfl rfl (some 10) rfl (fun w' hw' => ?hv5) ?_
  case hv5 =>
    go_simp
    with_reducible rfl
  simp only [Act.put, List.setIfInBounds_toArray, List.set_cons_zero, List.set_cons_succ]
  refine mix_take 6 _ ?_ rfl rfl rfl (some 11) rfl (fun w' hw' => ?hv6) ?_
  case hv6 =>
    have s0 := blk_cell (w := w') hw' 1 (.int .i64 c1) rfl
    go_simp
    with_reducible rfl
  simp only [Act.put, List.setIfInBounds_toArray, List.set_cons_zero, List.set_cons_succ]
  refine mix_take 8 _ ?_ rfl rfl rfl (some 13) rfl (fun w' hw' => ?hv8) ?_
  case hv8 =>
    go_simp
    with_reducible rfl
  simp only [Act.put, List.setIfInBounds_toArray, List.set_cons_zero, List.set_cons_succ]
  refine mix_take 9 _ ?_ rfl rfl rfl (some 14) rfl (fun w' hw' => ?hv9) ?_
  case hv9 =>
    go_simp
    with_reducible rfl
  simp only [Act.put, List.setIfInBounds_toArray, List.set_cons_zero, List.set_cons_succ]
  refine mix_take 10 _ ?_ rfl rfl rfl (some 15) rfl (fun w' hw' => ?hv10) ?_
  case hv10 =>
    have s0 := blk_cell (w := w') hw' 2 (.int .i64 c2) rfl
    go_simp
    with_reducible rfl
  simp only [Act.put, List.setIfInBounds_toArray, List.set_cons_zero, List.set_cons_succ]
  refine mix_call 3 _ rfl rfl rfl fid #[first, .int .i64 c0] (some 8) rfl ?hr3 ?_
  case hr3 => go_simp
  refine (H0.out _).mono ?_
  rintro e w3 ⟨rfl, hb3⟩
  have hb3' : Below w2.heap.size w2 w3 := ((Same.refl w2).drew w2.heap.size).trans hb3
  refine ⟨_, rfl, (hb3'.block _ (by omega)).trans g0, ?_⟩
  simp only [Act.put, List.setIfInBounds_toArray, List.set_cons_zero, List.set_cons_succ]
  refine mix_call 7 _ rfl rfl rfl fid #[first, .int .i64 c1] (some 12) rfl ?hr7 ?_
  case hr7 => go_simp
  refine (H1.out _).mono ?_
  rintro e w4 ⟨rfl, hb4⟩
  have hb4' := bnext hb3' hb4
  refine ⟨_, rfl, (hb4'.block _ (by omega)).trans g0, ?_⟩
  simp only [Act.put, List.setIfInBounds_toArray, List.set_cons_zero, List.set_cons_succ]
  refine mix_call 11 _ rfl rfl rfl fid #[first, .int .i64 c2] (some 16) rfl ?hr11 ?_
  case hr11 => go_simp
  refine (H2.out _).mono ?_
  rintro e w5 ⟨rfl, hb5⟩
  have hb5' := bnext hb4' hb5
  refine ⟨_, rfl, (hb5'.block _ (by omega)).trans g0, ?_⟩
  simp only [Act.put, List.setIfInBounds_toArray, List.set_cons_zero, List.set_cons_succ]
  refine mix_take 12 _ (.agg (n9 x0 x1 x2 x3 x4 x5 x6 x7 x8)) rfl rfl rfl (some 17) rfl (fun w' hw' => exec_build3 65 0 1 2 _ _ _ rfl (.agg (spA3 x0 x1 x2)) (.agg (spA3 x3 x4 x5)) (.agg (spA3 x6 x7 x8)) rfl rfl rfl _ (hbd w')) ?_
  simp only [Act.put, List.setIfInBounds_toArray, List.set_cons_zero, List.set_cons_succ]
  refine mix_store_blk blk9_move 13 _ rfl rfl rfl _ _ rfl none rfl (w.heap.size + 1) (n9 x0 x1 x2 x3 x4 x5 x6 x7 x8) z9 rfl rfl ((hb5'.block _ (by omega)).trans g1) z9_size (n9_size _ _ _ _ _ _ _ _ _) (n9_one _ _ _ _ _ _ _ _ _) w.heap.size (by omega) (fun w6 hg6 hb6 hk6 hz6 => ⟨(hk6 _ (by omega)).trans ((hb5'.block _ (by omega)).trans g0), ?_⟩)
  simp only [Act.put]
  refine mix_done ?_
  go_wp2_with fail
  exact bodyPost_ret (results_blk1 blk9_move rfl _ _ (w.heap.size + 1) _ rfl hg6 (n9_size _ _ _ _ _ _ _ _ _)) rfl ⟨rfl, (hb2.trans (hb5'.mono (by omega))).trans hb6⟩
end Go.Proofs.Ytelchpdlfedleaa
