import Derived.RegionTactic
import Derived.Test.YtncpnkcdjfohgaaDoorMd8
namespace Go.Proofs.YtncpnkcdjfohgaaDoor
open Go.RowKit
set_option maxRecDepth 4000
theorem blkOffer : Blk 68 3 := ⟨.inr ⟨_, _, Tryd.underlying68⟩, by kernel_rfl⟩
theorem exec_rng {o : Oper} {a : Act} {w : World} {n : Nat} (ty : TypeId) (x : Operand) (ho : o.op = .load ty x) (g f : Nat) (hx : a.eval x = .pointer (some ⟨g, f, none⟩)) (cs : List Value) (bk : Blk ty n)
    (hr : w.rangeAt g f cs) (hc : cs.length = n) : (execOp a.eval o).run Tryd.prog w = .ok (.value (.agg cs.toArray)) w := by
  have hl : (loadVar ty ⟨g, f, none⟩).run Tryd.prog w = .ok (.agg cs.toArray) w := by
    rcases bk.und with ⟨_, hu⟩ | ⟨_, _, hu⟩ <;> exact run_loadVar_mid (P := Tryd.prog) w g f ty cs _ hr hu rfl (by rw [bk.size, hc])
  unfold execOp
  simp only [ho, hx, Instr.loadAt, Instr.sureAddr, Sem.run_bind, Sem.run_pure, Result.andThen_ok, hl]
theorem run_arrayAt (a : Addr) (c : Nat) (w : World) : (Instr.arrayAt 68 (.slice (some a) 3 c)).run Tryd.prog w = .ok (.pointer (some a)) w := by kernel_rfl
theorem rng3 {w : World} {g f : Nat} {t : Nat → Int} (h : ∀ j, j < 3 → w.cell? ⟨g, f + j, none⟩ = some (.int .i64 (t j))) : w.rangeAt g f [.int .i64 (t 0), .int .i64 (t 1), .int .i64 (t 2)] := fun j v hv => by
  have hj : j < 3 := (List.getElem?_eq_some_iff.1 hv).1
  rw [h j hj]
  rcases (by omega : j = 0 ∨ j = 1 ∨ j = 2) with rfl | rfl | rfl <;> exact hv
theorem rw9_lit (ts : List (List Int)) : arrF 9 (rw9 ts) = #[.int .i64 ((ts.getD 0 []).getD 0 0), .int .i64 ((ts.getD 0 []).getD 1 0), .int .i64 ((ts.getD 0 []).getD 2 0), .int .i64 ((ts.getD 1 []).getD 0 0), .int .i64 ((ts.getD 1 []).getD 1 0), .int .i64 ((ts.getD 1 []).getD 2 0), .int .i64 ((ts.getD 2 []).getD 0 0), .int .i64 ((ts.getD 2 []).getD 1 0), .int .i64 ((ts.getD 2 []).getD 2 0)] := by kernel_rfl
set_option maxHeartbeats 400000 in
theorem offersOf_yes (ts : List (List Int)) (hy : rowsB 3 20 ts = true) (a : Option Addr) (cap : Nat) (w : World) (h : RdSS w w.heap.size a ts) :
    Calls Tryd.prog 73 #[.slice a ts.length cap] w fun e w' => e = .returned (.tuple #[.agg (arrF 9 (rw9 ts)), .bool true]) ∧ Below w.heap.size w w' := by
  have HY := Lib.hid hy
  have hb0 := balloc (Below.refl w.heap.size w) (.cells zeroO 70)
  have hg0 := heap_alloc_new w (.cells zeroO 70)
  have HRD := Lib.hid (rdss_mono (rdss_later h hb0) hb0.size)
  obtain ⟨h3, hr3⟩ := rowsB_at hy
  obtain ⟨-, b, off, hr⟩ := h
  obtain ⟨ha, hbl, ra0, rc0, c0, rb0, ro0, hd0, hx0⟩ := hr 0 (by omega)
  obtain ⟨-, -, ra1, rc1, c1, rb1, ro1, hd1, hx1⟩ := hr 1 (by omega)
  obtain ⟨-, -, ra2, rc2, c2, rb2, ro2, hd2, hx2⟩ := hr 2 (by omega)
  subst ha
  rw [(hr3 0 (by omega)).1] at c0 hx0
  rw [(hr3 1 (by omega)).1] at c1 hx1
  rw [(hr3 2 (by omega)).1] at c2 hx2
  have d0 := fun j (hj : j < 3) => hd0.2 j (by rw [(hr3 0 (by omega)).1]; exact hj)
  have d1 := fun j (hj : j < 3) => hd1.2 j (by rw [(hr3 1 (by omega)).1]; exact hj)
  have d2 := fun j (hj : j < 3) => hd2.2 j (by rw [(hr3 2 (by omega)).1]; exact hj)
  obtain ⟨rfl, -⟩ := d0 0 (by omega)
  obtain ⟨rfl, -⟩ := d1 0 (by omega)
  obtain ⟨rfl, -⟩ := d2 0 (by omega)
  have HD0 := Lib.hid (fun j hj => (d0 j hj).2)
  have HD1 := Lib.hid (fun j hj => (d1 j hj).2)
  have HD2 := Lib.hid (fun j hj => (d2 j hj).2)
  have C0 := Lib.hid c0
  have C1 := Lib.hid c1
  have C2 := Lib.hid c2
  have hl0 : rb0 < w.heap.size := by omega
  have hl1 : rb1 < w.heap.size := by omega
  have hl2 : rb2 < w.heap.size := by omega
  have HV := Lib.hid (rw9_lit ts)
  have h3i : (ts.length : Int) = 3 := by omega
  have H3 := Lib.hid h3
  clear hr hr3 hd0 hd1 hd2 hx0 hx1 hx2 d0 d1 d2 c0 c1 c2 hy h3i h3
  go_enter Tryd.func73, Tryd.ntmps73
  go_wp2_with (with_reducible refine alloc_blk zeroO run_alloc_off rfl rfl ?_)
  refine (areForPeople_any 3 20 ts _ cap _ HRD.out).mono ?_
  rintro e w1 ⟨rfl, hb1⟩
  rw [HY.out]
  have hg1 := (hb1.block w.heap.size (by simp)).trans hg0
  have hB1 := bnext hb0 hb1
  clear hb1 hb0 hg0
  go_wp2_with fail
  refine wp_region_mix (fun w' => Below w.heap.size w w') [16] [0, 1, 2, 3, 4, 5, 6, 7, 8, 9, 10, 11, 12, 13, 14, 15, 16, 17] (by kernel_rfl) (by kernel_rfl) (fun _ _ d _ _ h => by cases d <;> exact h) (by kernel_rfl) rfl (hB1.trans ((Same.refl w1).drew w.heap.size)) ?_
  refine mix_take 0 _ ?_ rfl rfl rfl (some 8) rfl (fun w' hw' => ?hv0) ?_
  case hv0 =>
    go_simp
    with_reducible rfl
  simp only [Act.put, List.setIfInBounds_toArray, List.set_cons_zero, List.set_cons_succ]
  refine mix_take 1 _ ?_ rfl rfl rfl (some 9) rfl (fun w' hw' => ?hv1) ?_
  case hv1 =>
    have hz0 : 0 < ts.length := (by have := H3.out; omega)
    go_simp
    with_reducible rfl
  simp only [Act.put, List.setIfInBounds_toArray, List.set_cons_zero, List.set_cons_succ]
  refine mix_take 2 _ ?_ rfl rfl rfl (some 10) rfl (fun w' hw' => ?hv2) ?_
  case hv2 =>
    have q0 := (hw'.cell hbl).trans C0.out
    rw [Nat.add_zero] at q0
    go_simp
    with_reducible rfl
  simp only [Act.put, List.setIfInBounds_toArray, List.set_cons_zero, List.set_cons_succ]
  refine mix_take 3 _ ?_ rfl rfl rfl (some 11) rfl (fun w' hw' => ?hv3) ?_
  case hv3 =>
    have hra := run_arrayAt ⟨rb0, ro0, none⟩ rc0 w'
    go_simp
    with_reducible rfl
  simp only [Act.put, List.setIfInBounds_toArray, List.set_cons_zero, List.set_cons_succ]
  refine mix_take 4 _ (.agg #[.int .i64 ((ts.getD 0 []).getD 0 0), .int .i64 ((ts.getD 0 []).getD 1 0), .int .i64 ((ts.getD 0 []).getD 2 0)]) rfl rfl rfl (some 12) rfl (fun w' hw' => exec_rng _ _ rfl rb0 ro0 rfl _ blkOffer (rng3 (fun j hj => (hw'.cell hl0).trans (HD0.out j hj))) rfl) ?_
  simp only [Act.put, List.setIfInBounds_toArray, List.set_cons_zero, List.set_cons_succ]
  refine mix_take 5 _ ?_ rfl rfl rfl (some 13) rfl (fun w' hw' => ?hv5) ?_
  case hv5 =>
    go_simp
    with_reducible rfl
  simp only [Act.put, List.setIfInBounds_toArray, List.set_cons_zero, List.set_cons_succ]
  refine mix_take 6 _ ?_ rfl rfl rfl (some 14) rfl (fun w' hw' => ?hv6) ?_
  case hv6 =>
    have hz1 : (1 : Int) < (ts.length : Int) := (by have := H3.out; omega)
    go_simp
    with_reducible rfl
  simp only [Act.put, List.setIfInBounds_toArray, List.set_cons_zero, List.set_cons_succ]
  refine mix_take 7 _ ?_ rfl rfl rfl (some 15) rfl (fun w' hw' => ?hv7) ?_
  case hv7 =>
    have q1 := (hw'.cell hbl).trans C1.out
    go_simp
    with_reducible rfl
  simp only [Act.put, List.setIfInBounds_toArray, List.set_cons_zero, List.set_cons_succ]
  refine mix_take 8 _ ?_ rfl rfl rfl (some 16) rfl (fun w' hw' => ?hv8) ?_
  case hv8 =>
    have hra := run_arrayAt ⟨rb1, ro1, none⟩ rc1 w'
    go_simp
    with_reducible rfl
  simp only [Act.put, List.setIfInBounds_toArray, List.set_cons_zero, List.set_cons_succ]
  refine mix_take 9 _ (.agg #[.int .i64 ((ts.getD 1 []).getD 0 0), .int .i64 ((ts.getD 1 []).getD 1 0), .int .i64 ((ts.getD 1 []).getD 2 0)]) rfl rfl rfl (some 17) rfl (fun w' hw' => exec_rng _ _ rfl rb1 ro1 rfl _ blkOffer (rng3 (fun j hj => (hw'.cell hl1).trans (HD1.out j hj))) rfl) ?_
  simp only [Act.put, List.setIfInBounds_toArray, List.set_cons_zero, List.set_cons_succ]
  refine mix_take 10 _ ?_ rfl rfl rfl (some 18) rfl (fun w' hw' => ?hv10) ?_
  case hv10 =>
    go_simp
    with_reducible rfl
  simp only [Act.put, List.setIfInBounds_toArray, List.set_cons_zero, List.set_cons_succ]
  refine mix_take 11 _ ?_ rfl rfl rfl (some 19) rfl (fun w' hw' => ?hv11) ?_
  case hv11 =>
    have hz2 : (2 : Int) < (ts.length : Int) := (by have := H3.out; omega)
    go_simp
    with_reducible rfl
  simp only [Act.put, List.setIfInBounds_toArray, List.set_cons_zero, List.set_cons_succ]
  refine mix_take 12 _ ?_ rfl rfl rfl (some 20) rfl (fun w' hw' => ?hv12) ?_
  case hv12 =>
    have q2 := (hw'.cell hbl).trans C2.out
    go_simp
    with_reducible rfl
  simp only [Act.put, List.setIfInBounds_toArray, List.set_cons_zero, List.set_cons_succ]
  refine mix_take 13 _ ?_ rfl rfl rfl (some 21) rfl (fun w' hw' => ?hv13) ?_
  case hv13 =>
    have hra := run_arrayAt ⟨rb2, ro2, none⟩ rc2 w'
    go_simp
    with_reducible rfl
  simp only [Act.put, List.setIfInBounds_toArray, List.set_cons_zero, List.set_cons_succ]
  refine mix_take 14 _ (.agg #[.int .i64 ((ts.getD 2 []).getD 0 0), .int .i64 ((ts.getD 2 []).getD 1 0), .int .i64 ((ts.getD 2 []).getD 2 0)]) rfl rfl rfl (some 22) rfl (fun w' hw' => exec_rng _ _ rfl rb2 ro2 rfl _ blkOffer (rng3 (fun j hj => (hw'.cell hl2).trans (HD2.out j hj))) rfl) ?_
  simp only [Act.put, List.setIfInBounds_toArray, List.set_cons_zero, List.set_cons_succ]
  refine mix_take 15 _ ?_ rfl rfl rfl (some 23) rfl (fun w' hw' => ?hv15) ?_
  case hv15 =>
    go_simp
    with_reducible rfl
  simp only [Act.put, List.setIfInBounds_toArray, List.set_cons_zero, List.set_cons_succ]
  refine mix_store_blk blkOff 16 _ rfl rfl rfl _ _ rfl none rfl w.heap.size (arrF 9 (rw9 ts)) zeroO rfl (congrArg Value.agg HV.out.symm) hg1 zeroO_size (arrF_size _ _) (arrF_one _ _) w.heap.size (Nat.le_refl _) ?_
  intro w6 hg6 hb6 hk6 _
  have hB6 := (hB1.trans ((Same.refl w1).drew w.heap.size)).trans hb6
  refine ⟨hB6, ?_⟩
  
  refine mix_take 17 _ ?_ rfl rfl rfl (some 3) rfl (fun w' hw' => ?hv17) ?_
  case hv17 =>
    go_simp
    with_reducible rfl
  simp only [Act.put, List.setIfInBounds_toArray, List.set_cons_zero, List.set_cons_succ]
  refine mix_done ?_
  go_wp2_with fail
  exact bodyPost_ret (results_blk blkOff rfl _ _ w.heap.size _ _ rfl rfl hg6 (arrF_size _ _)) rfl ⟨rfl, hB6⟩
end Go.Proofs.YtncpnkcdjfohgaaDoor
