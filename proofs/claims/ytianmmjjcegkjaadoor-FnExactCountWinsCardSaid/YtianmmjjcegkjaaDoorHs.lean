import Derived.Test.YtianmmjjcegkjaaDoorHr
namespace Go.Proofs.YtianmmjjcegkjaaDoor
open Go.RowKit
set_option maxRecDepth 4000
theorem built_sp (n m : Nat) (L : Int) (lf op ow : Value) (sg s : Nat) :
    Tryd.prog.built 50 [(0, .agg (schA n m L lf op ow)), (1, .slice (some ⟨sg, 0, none⟩) s s)] = some (spA n m L lf op ow sg s (.slice none 0 0) (.slice none 0 0)) := by kernel_rfl
theorem exec_build_sp {a : Act} {o : Oper} (x y : Operand) (ho : o.op = .build 50 #[(0, x), (1, y)]) (n m : Nat) (L : Int) (lf op ow : Value) (sg s : Nat) (hx : a.eval x = .agg (schA n m L lf op ow)) (hy : a.eval y = .slice (some ⟨sg, 0, none⟩) s s) (w : World) :
    (execOp a.eval o).run Tryd.prog w = .ok (.value (.agg (spA n m L lf op ow sg s (.slice none 0 0) (.slice none 0 0)))) w := by
  have hr := run_build (P := Tryd.prog) w 50 #[(0, .agg (schA n m L lf op ow)), (1, .slice (some ⟨sg, 0, none⟩) s s)] _ (built_sp n m L lf op ow sg s)
  simp [execOp, ho, hx, hy, hr, Result.andThen]
theorem q_lower {w : World} {B B' : Nat} {v : Value} {xs : List Int} (h : OwnQ w B v xs) (hb : B' ≤ B) : OwnQ w B' v xs := by
  rcases h with h | ⟨g, off, cap, cur, rfl, hg, r⟩
  · exact .inl h
  · exact .inr ⟨g, off, cap, cur, rfl, Nat.le_trans hb hg, r⟩
theorem SpM.lower {w : World} {B B' g sg n m s : Nat} {L : Int} {lf op ow nv lv : Value} {σ : Net.Sp} (h : SpM w B g sg n m s L lf op ow nv lv σ) (hb : B' ≤ B) : SpM w B' g sg n m s L lf op ow nv lv σ :=
  ⟨h.obj, h.seen, q_lower h.now hb, q_lower h.later hb, Nat.le_trans hb h.gB, Nat.le_trans hb h.sB, h.gs, h.ng, h.ns, h.lg, h.ls, h.nl⟩
theorem sch_cells {w : World} {g : Nat} {n m : Nat} {L : Int} {lf op ow : Value} (h : w.heap[g]? = some (.cells (schA n m L lf op ow) 43 (0, 0))) :
    w.cell? ⟨g, 0, none⟩ = some (.int .i64 n) ∧ w.cell? ⟨g, 1, none⟩ = some (.int .i64 m) ∧ w.cell? ⟨g, 2, none⟩ = some (.int .i64 L) ∧ w.cell? ⟨g, 3, none⟩ = some lf ∧ w.cell? ⟨g, 4, none⟩ = some op ∧ w.cell? ⟨g, 5, none⟩ = some ow :=
  ⟨blk_cell h 0 _ rfl, blk_cell h 1 _ rfl, blk_cell h 2 _ rfl, blk_cell h 3 _ rfl, blk_cell h 4 _ rfl, blk_cell h 5 _ rfl⟩
set_option maxHeartbeats 3200000 in
theorem begin_any (n m s bb pb fl : Nat) (L : Int) (xs : List Int) (p : Int) (line : Nat → Nat) (w : World) (hnm : n * m = s) (h30 : s ≤ 30) (hl : xs.length = s) (hA : allB 0 2 xs = true) (hp : 1 ≤ p ∧ p ≤ 2)
    (hM : HexM w bb pb n m xs p) (hbb : bb < w.heap.size) (hpb : pb < w.heap.size)
    (hln : ∀ j, j < s → ∀ w' : World, Calls Tryd.prog fl #[.agg #[.int .i64 n, .int .i64 m], .int .i64 j] w' fun e w'' => e = .returned (.int .i64 (line j : Nat)) ∧ Below w'.heap.size w' w'')
    (hcf : ∀ (args : Array Value) (w : World), (callFunc fl args).run Tryd.prog w = .ok (.enter fl args) w)
    (hst : ∀ j, j < s → (line j == 0) = (hNet n m s xs p).st j) :
    Calls Tryd.prog 25 #[.agg (schA n m L (lnF fl n m) (opF 21 bb pb) (opF 23 bb pb))] w fun e w' => ∃ g sg nv lv, e = .returned (.pointer (some ⟨g, 0, none⟩)) ∧ SpM w' w.heap.size g sg n m s L (lnF fl n m) (opF 21 bb pb) (opF 23 bb pb) nv lv ((hNet n m s xs p).beg s) ∧ Below w.heap.size w w' := by
  have hB0 := balloc (Below.refl w.heap.size w) (.cells (schA n m L (lnF fl n m) (opF 21 bb pb) (opF 23 bb pb)) 43)
  have hg0 := heap_alloc_new w (.cells (schA n m L (lnF fl n m) (opF 21 bb pb) (opF 23 bb pb)) 43)
  have hz0 : (w.alloc (.cells (schA n m L (lnF fl n m) (opF 21 bb pb) (opF 23 bb pb)) 43)).heap.size = w.heap.size + 1 := by simp
  have hM0 := hexM_now hM hbb hpb hB0
  have HSZ := Lib.hid (fun w => gridSize_any n m s hnm h30 w)
  go_enter Tryd.func25, Tryd.ntmps25
  go_wp2_with fail
  generalize w.alloc (.cells (schA n m L (lnF fl n m) (opF 21 bb pb) (opF 23 bb pb)) 43) = w0 at hB0 hg0 hz0 hM0 ⊢
  refine wp_region_mix (fun w' => w'.heap[w.heap.size]? = some (.cells (schA n m L (lnF fl n m) (opF 21 bb pb) (opF 23 bb pb)) 43 (0, 0))) [3, 4, 6] [0, 1, 2, 3, 4, 5, 6, 7] (by kernel_rfl) (by kernel_rfl) (fun _ _ d _ _ h => by cases d <;> exact h) (by kernel_rfl) rfl hg0 ?_
  refine mix_take 0 _ (.agg (schA n m L (lnF fl n m) (opF 21 bb pb) (opF 23 bb pb))) rfl rfl rfl (some 5) rfl (fun w' hw' => ?hv0) ?_
  case hv0 =>
    obtain ⟨c0, c1, c2, c3, c4, c5⟩ := sch_cells hw'
    go_simp
    rfl
  simp only [Act.put, List.setIfInBounds_toArray, List.set_cons_zero, List.set_cons_succ]
  refine mix_take 1 _ ?_ rfl rfl rfl (some 6) rfl (fun w' hw' => ?hv1) ?_
  case hv1 =>
    go_simp
    with_reducible rfl
  simp only [Act.put, List.setIfInBounds_toArray, List.set_cons_zero, List.set_cons_succ]
  refine mix_take 2 _ (.agg #[.int .i64 n, .int .i64 m]) rfl rfl rfl (some 7) rfl (fun w' hw' => ?hv2) ?_
  case hv2 =>
    obtain ⟨c0, c1, c2, c3, c4, c5⟩ := sch_cells hw'
    go_simp
  simp only [Act.put, List.setIfInBounds_toArray, List.set_cons_zero, List.set_cons_succ]
  refine mix_call 3 _ rfl rfl rfl 11 #[.agg #[.int .i64 n, .int .i64 m]] (some 8) rfl ?hr3 ?_
  case hr3 => go_simp
  refine (HSZ.out _).mono ?_
  rintro e w1 ⟨rfl, hb1⟩
  have hg1 := (hb1.block w.heap.size (by show w.heap.size < w0.heap.size; omega)).trans hg0
  have hB1 := hB0.drew.trans (hb1.mono (show w.heap.size ≤ w0.drew.heap.size from (by omega : w.heap.size ≤ w0.heap.size)))
  have hz1 : w0.heap.size ≤ w1.heap.size := hb1.size
  refine ⟨_, rfl, hg1, ?_⟩
  simp only [Act.put, List.setIfInBounds_toArray, List.set_cons_zero, List.set_cons_succ]
  refine mix_make_bool 4 _ rfl rfl rfl _ rfl (some 9) rfl s rfl (by omega) ?_
  intro w2 hg2 hb2
  have hg3 := (hb2.block w.heap.size (by omega)).trans hg1
  have hB2 := hB1.trans (hb2.mono (by omega))
  have hz2 := (Array.getElem?_eq_some_iff.1 hg2).1
  refine ⟨hg3, ?_⟩
  obtain ⟨sg, hsg⟩ : ∃ sg, sg = w1.heap.size := ⟨_, rfl⟩
  rw [← hsg] at hg2 hz2 ⊢
  simp only [Act.put, List.setIfInBounds_toArray, List.set_cons_zero, List.set_cons_succ]
  refine mix_take 5 _ (.agg (spA n m L (lnF fl n m) (opF 21 bb pb) (opF 23 bb pb) sg s (.slice none 0 0) (.slice none 0 0))) rfl rfl rfl (some 10) rfl (fun w' hw' => exec_build_sp _ _ rfl n m L _ _ _ sg s rfl rfl w') ?_
  simp only [Act.put, List.setIfInBounds_toArray, List.set_cons_zero, List.set_cons_succ]
  have hg4 := (Below.heap_alloc w2 (.cells (spA n m L (lnF fl n m) (opF 21 bb pb) (opF 23 bb pb) sg s (.slice none 0 0) (.slice none 0 0)) 50) w.heap.size (by omega)).trans hg3
  have hS4 : SpM (w2.alloc (.cells (spA n m L (lnF fl n m) (opF 21 bb pb) (opF 23 bb pb) sg s (.slice none 0 0) (.slice none 0 0)) 50)) (w.heap.size + 1) w2.heap.size sg n m s L (lnF fl n m) (opF 21 bb pb) (opF 23 bb pb) (.slice none 0 0) (.slice none 0 0) ((hNet n m s xs p).beg 0) :=
    ⟨heap_alloc_new w2 _, (Below.heap_alloc w2 _ sg hz2).trans hg2, q_nil _ _, q_nil _ _, by omega, by omega, by omega, by simp [Value.ownBlock], by simp [Value.ownBlock], by simp [Value.ownBlock], by simp [Value.ownBlock], by simp [Value.ownBlock]⟩
  have hB4 := balloc hB2 (.cells (spA n m L (lnF fl n m) (opF 21 bb pb) (opF 23 bb pb) sg s (.slice none 0 0) (.slice none 0 0)) 50)
  refine mix_box 6 _ rfl rfl rfl _ _ rfl (some 11) rfl _ rfl ⟨hg4, ?_⟩
  simp only [Act.put, List.setIfInBounds_toArray, List.set_cons_zero, List.set_cons_succ]
  generalize w2.alloc (.cells (spA n m L (lnF fl n m) (opF 21 bb pb) (opF 23 bb pb) sg s (.slice none 0 0) (.slice none 0 0)) 50) = w4 at hg4 hS4 hB4 ⊢
  have hgl := hS4.gB
  generalize w2.heap.size = g at hS4 hgl ⊢
  refine mix_take 7 _ ?_ rfl rfl rfl (some 3) rfl (fun w' hw' => ?hv7) ?_
  case hv7 =>
    go_simp
    with_reducible rfl
  simp only [Act.put, List.setIfInBounds_toArray, List.set_cons_zero, List.set_cons_succ]
  refine mix_done ?_
  have hM4 := hexM_now hM hbb hpb hB4
  clear hB0 hg0 hz0 hM0 hb1 hg1 hB1 hz1 hg2 hb2 hg3 hB2 hz2 hsg
  have hbd := fun i hi => beg_mu (hNet n m s xs p) i hi
  rw [hNet_s] at hbd
  have HLN := Lib.hid hln
  have HST := Lib.hid hst
  have HBD := Lib.hid hbd
  have HSX : Hid (∀ i, i < s → ((hNet n m s xs p).st i = true → (hNet n m s xs p).beg (i + 1) = (hNet n m s xs p).come ((hNet n m s xs p).beg i) i) ∧ ((hNet n m s xs p).st i = false → (hNet n m s xs p).beg (i + 1) = (hNet n m s xs p).beg i)) := Lib.hid (fun i _ => ⟨fun h => by rw [Net.beg, if_pos h], fun h => by rw [Net.beg, if_neg (by rw [h]; exact Bool.false_ne_true)]⟩)
  have hHM := Lib.hid (fun w' (hb : Below w.heap.size w w') => hexM_now hM hbb hpb hb)
  have hHL := Lib.hid hl
  have hHA := Lib.hid hA
  have q0 := (sch_cells hg4).1
  have q1 := (sch_cells hg4).2.1
  have hgx : w.heap.size < w4.heap.size := (Array.getElem?_eq_some_iff.1 hg4).1
  clear hM hM4 hln hst hbd hnm hl hA
  go_wp2_with fail
  refine (HSZ.out _).mono ?_
  rintro e w5 ⟨rfl, hb5⟩
  have hS5 := hS4.below hb5
  have hB5 := bnext hB4 hb5
  have hg5 := (hb5.block w.heap.size hgx).trans hg4
  clear hb5 hS4 hB4 hg4 hgx q0 q1
  go_wp2_with fail
  go_loopw [15] (fun v15 wr => ∃ i : Nat, i ≤ s ∧ v15 = .int .i64 i ∧ wr.heap[w.heap.size]? = some (.cells (schA n m L (lnF fl n m) (opF 21 bb pb) (opF 23 bb pb)) 43 (0, 0)) ∧ (∃ nv lv, SpM wr (w.heap.size + 1) g sg n m s L (lnF fl n m) (opF 21 bb pb) (opF 23 bb pb) nv lv ((hNet n m s xs p).beg i)) ∧ Below w.heap.size w wr) (fun v15 _ => s - (intOf v15).toNat)
  case atStart => exact ⟨0, Nat.zero_le _, rfl, hg5, ⟨_, _, hS5⟩, hB5⟩
  case round =>
    clear hg5 hS5 hB5
    obtain ⟨i, hi, rfl, hgr, ⟨nv, lv, hS⟩, hB⟩ := hrel
    by_cases his : i < s
    · have hii : (i : Int) < (s : Int) := by omega
      have q3 := (sch_cells hgr).2.2.2.1
      have hgx : w.heap.size < wr.heap.size := (Array.getElem?_eq_some_iff.1 hgr).1
      unfold lnF at q3
      go_wp2_with fail
      refine (HLN.out i his _).mono ?_
      rintro e w6 ⟨rfl, hb6⟩
      have hS6 := hS.below hb6
      have hB6 := bnext hB hb6
      have hg6 := (hb6.block w.heap.size hgx).trans hgr
      have HBI := HBD.out i hi
      have hst := HST.out i his
      have HSY := HSX.out i his
      have hgx6 : w.heap.size < w6.heap.size := (Array.getElem?_eq_some_iff.1 hg6).1
      clear hb6 hS hB hgr q3
      generalize line i = li at hst ⊢
      generalize (hNet n m s xs p).beg i = σ at HBI HSY hS6
      cases hsi : (hNet n m s xs p).st i
      · have e := Lib.hid (HSY.2 hsi)
        have hl0 : ¬ li = 0 := by rw [hsi] at hst; simpa using hst
        clear HSY hst hsi HBI
        go_wp2_with fail
        go_roundw
        case rel => exact ⟨i + 1, by omega, by go_num, hg6, ⟨_, _, by rw [e.out]; exact hS6⟩, hB6⟩
        case measure => simp [intOf]; omega
      · have e := Lib.hid (HSY.1 hsi)
        have hl0 : li = 0 := by rw [hsi] at hst; simpa using hst
        have hml := mu_len HBI
        clear HSY hst hsi HBI
        go_wp2_with fail
        refine (come_any n m s i (w.heap.size + 1) g sg bb pb fl L xs p nv lv σ w6 hS6 (hHM.out w6 hB6) (by omega) (by omega) hp hHL.out h30 his hHA.out (by omega) (by omega)).mono ?_
        rintro e2 w7 ⟨rfl, ⟨nv', lv', hS7, -⟩, hb7⟩
        have hB7 := hB6.trans (hb7.mono (Nat.le_succ _))
        have hg7 := (hb7.block w.heap.size (Nat.lt_succ_self _)).trans hg6
        rw [← e.out] at hS7
        clear hml
        go_wp2_with fail
        go_roundw
        case rel => exact ⟨i + 1, by omega, by go_num, hg7, ⟨_, _, hS7⟩, hB7⟩
        case measure => simp [intOf]; omega
    · obtain rfl : i = s := by omega
      clear his
      go_wp2_with fail
      go_ret
      exact ⟨g, sg, nv, lv, rfl, hS.lower (Nat.le_succ _), hB⟩
end Go.Proofs.YtianmmjjcegkjaaDoor
