import Derived.LoopN
import Derived.BigRegion
import Derived.BigQuiet
import Derived.RegionTactic
import Derived.Test.YtlkgmnmnlfaopaaQ15
import Derived.Test.YtlkgmnmnlfaopaaQ11
namespace Go.Proofs.Ytlkgmnmnlfaopaa
open Go.RowKit
set_option maxRecDepth 4000
theorem exec_build2 {o : Oper} {a : Act} {w : World} (ty : TypeId) (i0 i1 : Nat) (y0 y1 : Operand) (ho : o.op = .build ty #[(i0, y0), (i1, y1)]) (v0 v1 : Value) (h0 : a.eval y0 = v0) (h1 : a.eval y1 = v1) (v : Value)
    (hr : (Instr.build ty #[(i0, v0), (i1, v1)]).run Try.prog w = .ok v w) : (execOp a.eval o).run Try.prog w = .ok (.value v) w := by
  unfold execOp
  simp [ho, h0, h1, hr]
theorem run_build_game (a1 a2 : Option Addr) (n1 n2 c1 c2 : Nat) (w : World) : (Instr.build 27 #[(0, .slice a1 n1 c1), (1, .slice a2 n2 c2)]).run Try.prog w = .ok (.agg #[.slice a1 n1 c1, .slice a2 n2 c2]) w := by kernel_rfl
theorem one2 (a1 a2 : Option Addr) (n1 n2 c1 c2 : Nat) : (#[Value.slice a1 n1 c1, Value.slice a2 n2 c2] : Array Value).all (·.oneCell') = true := by simp [Value.oneCell']
theorem oss_of {w : World} {base : Nat} {v : Value} {cs : List (List Int)} (h : CellsV w base v cs) : OSS w base w.heap.size v cs := by
  obtain ⟨vs, h1, h2, h3⟩ := h
  exact ⟨vs, h1, h2, h3, own_lt h1, fun i hi => own_lt (h2 i hi)⟩
set_option maxHeartbeats 1600000 in
theorem swapped_any (gr gc : List (List Int)) (m n : Nat) (ok1 : GOk gr m n) (ok2 : GOk gc m n) (ar ac : Option Addr) (cr cc B : Nat) (w : World) (hr : RdSS w B ar gr) (hc : RdSS w B ac gc) (hB : B ≤ w.heap.size) :
    Calls Try.prog 70 #[.agg #[.slice ar gr.length cr, .slice ac gc.length cc]] w fun e w' => ∃ v1 v2, e = .returned (.agg #[v1, v2]) ∧ OG w' w.heap.size w'.heap.size v1 v2 (trL gc m n) (trL gr m n) ∧ Below w.heap.size w w' := by
  obtain ⟨w1, hw1⟩ : ∃ w1, w1 = (w.alloc (.cells #[.slice ar gr.length cr, .slice ac gc.length cc] 27)) := ⟨_, rfl⟩
  obtain ⟨w2, hw2⟩ : ∃ w2, w2 = (w1.alloc (.cells zgame 27)) := ⟨_, rfl⟩
  have hb1 : Below w.heap.size w w1 := by rw [hw1]; exact balloc (Below.refl w.heap.size w) _
  have hb2 : Below w1.heap.size w1 w2 := by rw [hw2]; exact balloc (Below.refl w1.heap.size w1) _
  have hz1 : w1.heap.size = w.heap.size + 1 := by rw [hw1]; simp
  have hz2 : w2.heap.size = w.heap.size + 2 := by rw [hw2, World.size_alloc, hz1]
  have g1 : w1.heap[w.heap.size]? = some (.cells #[.slice ar gr.length cr, .slice ac gc.length cc] 27 (0, 0)) := by rw [hw1]; exact heap_alloc_new w _
  have g1 := hp_later g1 hb2
  have g2 : w2.heap[w.heap.size + 1]? = some (.cells zgame 27 (0, 0)) := by rw [hw2, ← hz1]; exact heap_alloc_new w1 _
  have hb := bnext hb1 hb2
  have HR := Lib.hid (rdss_chg hr (chg_below hb) hB (.inr rfl))
  have HC := Lib.hid (rdss_chg hc (chg_below hb) hB (.inr rfl))
  have HW1 := Lib.hid hw1
  have HW2 := Lib.hid hw2
  have HO1 := Lib.hid ok1
  have HO2 := Lib.hid ok2
  have hBz : B ≤ w2.heap.size := by omega
  have HZ2 := Lib.hid hz2
  clear hw1 hw2 hr hc hb1 hb2 ok1 ok2 hz1 hz2
  go_enter Try.func70, Try.ntmps70
  go_wp2_with ((with_reducible refine alloc_blk zgame run_alloc_game rfl rfl ?_); simp only [World.size_alloc, Act.put, List.setIfInBounds_toArray, List.set_cons_zero, List.set_cons_succ])
  rw [← HW1.out, ← HW2.out]
  refine wp_region_mix (fun w' => w'.heap[w.heap.size]? = some (.cells #[.slice ar gr.length cr, .slice ac gc.length cc] 27 (0, 0))) [2, 5, 7] [0, 1, 3, 4, 2, 5, 6, 7] (by kernel_rfl) (by kernel_rfl) (fun _ _ d _ _ h => by cases d <;> exact h) (by kernel_rfl) rfl g1 ?_
  refine mix_take 0 _ ?_ rfl rfl rfl (some 3) rfl (fun w' hw' => ?hv0) ?_
  case hv0 =>
    go_simp
    with_reducible rfl
  simp only [Act.put, List.setIfInBounds_toArray, List.set_cons_zero, List.set_cons_succ]
  refine mix_take 1 _ ?_ rfl rfl rfl (some 4) rfl (fun w' hw' => ?hv1) ?_
  case hv1 =>
    have s0 := blk_cell (w := w') hw' 1 _ rfl
    go_simp
    with_reducible rfl
  simp only [Act.put, List.setIfInBounds_toArray, List.set_cons_zero, List.set_cons_succ]
  refine mix_take 3 _ ?_ rfl rfl rfl (some 6) rfl (fun w' hw' => ?hv3) ?_
  case hv3 =>
    go_simp
    with_reducible rfl
  simp only [Act.put, List.setIfInBounds_toArray, List.set_cons_zero, List.set_cons_succ]
  refine mix_take 4 _ ?_ rfl rfl rfl (some 7) rfl (fun w' hw' => ?hv4) ?_
  case hv4 =>
    have s0 := blk_cell (w := w') hw' 0 _ rfl
    go_simp
    with_reducible rfl
  simp only [Act.put, List.setIfInBounds_toArray, List.set_cons_zero, List.set_cons_succ]
  have hbd : Below w2.heap.size w2 w2.drew := (Same.refl w2).drew _
  refine mix_call 2 _ rfl rfl rfl 102 #[.slice ac gc.length cc] (some 5) rfl ?hr2 ?_
  case hr2 => go_simp
  refine (transposed_any gc m n HO2.out ac cc B _ (rdss_sam HC.out ((Same.refl w2).drew)) hBz).mono ?_
  rintro e w3 ⟨v1, rfl, hc1, hb3⟩
  have hb3' : Below w2.heap.size w2 w3 := hbd.trans hb3
  have hc1 : CellsV w3 w2.heap.size v1 (trL gc m n) := hc1
  have hz3 := hb3'.size
  refine ⟨_, rfl, hp_later g1 hb3', ?_⟩
  simp only [Act.put, List.setIfInBounds_toArray, List.set_cons_zero, List.set_cons_succ]
  refine mix_call 5 _ rfl rfl rfl 102 #[.slice ar gr.length cr] (some 8) rfl ?hr5 ?_
  case hr5 => go_simp
  refine (transposed_any gr m n HO1.out ar cr B _ (rdss_chg HR.out (chg_below hb3') hBz (.inr rfl)) (by omega)).mono ?_
  rintro e w4 ⟨v2, rfl, hc2, hb4⟩
  have hz4 := hb4.size
  have hb4' := bnext hb3' hb4
  refine ⟨_, rfl, hp_later g1 hb4', ?_⟩
  simp only [Act.put, List.setIfInBounds_toArray, List.set_cons_zero, List.set_cons_succ]
  have o1 := oss_keep (oss_of hc1) (chg_below hb4) (Nat.le_refl _) (.inl (Nat.zero_le _))
  have o2 := oss_of hc2
  obtain ⟨a1, c1, rfl, -⟩ := oss_shape o1
  obtain ⟨a2, c2, rfl, -⟩ := oss_shape o2
  refine mix_take 6 _ (.agg #[.slice a1 (trL gc m n).length c1, .slice a2 (trL gr m n).length c2]) rfl rfl rfl (some 9) rfl (fun w' hw' => exec_build2 27 0 1 _ _ rfl (.slice a1 (trL gc m n).length c1) (.slice a2 (trL gr m n).length c2) rfl rfl _ (run_build_game _ _ _ _ _ _ w')) ?_
  simp only [Act.put, List.setIfInBounds_toArray, List.set_cons_zero, List.set_cons_succ]
  refine mix_put_blk blkG 7 _ rfl rfl rfl _ _ rfl none rfl (w.heap.size + 1) #[.slice a1 (trL gc m n).length c1, .slice a2 (trL gr m n).length c2] zgame rfl rfl (hp_later g2 hb4') rfl rfl (one2 _ _ _ _ _ _) (w.heap.size + 1) (Nat.le_refl _) (fun w5 hg5 hb5 hk5 hz5 => ⟨(hk5 _ (by omega : w.heap.size ≠ w.heap.size + 1)).trans (hp_later g1 hb4'), ?_⟩)
  simp only [Act.put]
  refine mix_done ?_
  have hz2 := HZ2.out
  have hch5 : Chg (w.heap.size + 1) (w.heap.size + 2) w4 w5 := ⟨hb5.os, hb5.tape, hb5.output, hb5.size, fun k _ hx => hk5 k (by omega)⟩
  have o1 := oss_keep o1 hch5 (by omega) (.inl (by omega))
  have o2 := oss_keep o2 hch5 (by omega) (.inl (by omega))
  have hB5 : Below w.heap.size w w5 := (hb.trans (hb4'.mono (by omega))).trans (hb5.mono (by omega))
  have HG := Lib.hid hch5
  clear hz2 hch5
  go_wp2_with fail
  exact bodyPost_ret (results_blk1 blkG rfl _ _ (w.heap.size + 1) _ rfl hg5 rfl) rfl ⟨_, _, rfl, ⟨w3.heap.size, by have := HZ2.out; omega, by have := HG.out.size; omega, oss_low o1 (by have := HZ2.out; omega), oss_high o2 HG.out.size⟩, hB5⟩
end Go.Proofs.Ytlkgmnmnlfaopaa
