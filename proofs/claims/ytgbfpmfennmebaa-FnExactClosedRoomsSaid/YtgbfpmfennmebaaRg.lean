import Derived.Test.YtgbfpmfennmebaaR4
import Derived.Test.YtgbfpmfennmebaaVg
namespace Go.Proofs.Ytgbfpmfennmebaa
open Go.RowKit
set_option maxRecDepth 4000
set_option maxHeartbeats 1600000 in
theorem walkFromFull_any (n : Nat) (xs : List Int) (base : Nat) (R : Array Value) (k : Nat) (w : World) (hL : labB n xs = true) (hrv : RoomsT w base n xs R) (hk : k < (ci n).length) (hf : fullB xs n k = true) :
    Calls Try.prog 75 #[.agg R, .int .i64 k] w fun e w' => ∃ g r, RmW 62 #[] (capD g) (drB xs) (ci n) (bps n (3 * n)) base r w ∧ Walked w r (wF xs n k) e w' := by
  have h2 := (labB_yes hL).2.1
  have hbd := ci_bd n h2
  obtain ⟨hd1, hd2, hd3⟩ := full_door hL hk hf
  obtain ⟨g, r, hrm, hrs, hro, hRs, -, -, -, hrj, -⟩ := rt_row hL hrv
  have HL := Lib.hid hL
  have HRM := Lib.hid hrm
  have HD1 := Lib.hid hd1
  have HG := Lib.hid hd2
  generalize hW : wF xs n k = W
  have HW : Hid (wfrom xs n (k : Int) (dF xs n k) = W) := Lib.hid hW
  obtain ⟨ca, cc, ba, bc, hre, -⟩ := hrm.v
  subst hre
  have hj0 : R[46]? = some (.slice ca (ci n).length cc) := hrj 0 (by omega)
  have hj1 : R[47]? = some (.slice ba (bps n (3 * n)).length bc) := hrj 1 (by omega)
  have hj2 : R[48]? = some (.func (.func 62) #[] (capD g)) := hrj 2 (by omega)
  clear hL hrv hd1 hd2 hW hf hrm
  generalize dF xs n k = p at HD1 HG hd3 HW
  obtain ⟨p1, p2⟩ := p
  obtain ⟨L, D, f⟩ := W
  have W2 : Below w.heap.size w ((w.alloc (.cells R 53)).alloc (.cells zeroW 104)) := balloc (balloc (Below.refl _ _) _) _
  have hg1 : ((w.alloc (.cells R 53)).alloc (.cells zeroW 104)).heap[w.heap.size]? = some (.cells R 53 (0, 0)) := by
    rw [Below.heap_alloc _ _ _ (by simp)]
    exact heap_alloc_new w _
  have hz1 : ((w.alloc (.cells R 53)).alloc (.cells zeroW 104)).heap[w.heap.size + 1]? = some (.cells zeroW 104 (0, 0)) := by
    have e := heap_alloc_new (w.alloc (.cells R 53)) (.cells zeroW 104)
    rwa [World.size_alloc] at e
  have hs1 : ((w.alloc (.cells R 53)).alloc (.cells zeroW 104)).heap.size = w.heap.size + 2 := by simp
  have hki : (k : Int) < ((ci n).length : Int) := by omega
  go_enter Try.func75, Try.ntmps75
  go_wp2_with ((with_reducible refine alloc_blk zeroW run_alloc_wk rfl rfl ?_); simp only [World.size_alloc, Act.put, List.setIfInBounds_toArray, List.set_cons_zero, List.set_cons_succ])
  generalize ((w.alloc (.cells R 53)).alloc (.cells zeroW 104)) = w1 at W2 hg1 hz1 hs1 ⊢
  refine wp_region_mix (fun w' => Below w.heap.size w w' ∧ w'.heap[w.heap.size]? = some (.cells R 53 (0, 0))) [6, 8, 9, 10] [0, 1, 2, 3, 4, 5, 6, 7, 8, 9, 10] (by kernel_rfl) (by kernel_rfl) (fun _ _ d _ _ h => by cases d <;> exact h) (by kernel_rfl) rfl ⟨W2.drew, hg1⟩ ?_
  refine mix_take 0 _ ?_ rfl rfl rfl (some 5) rfl (fun w' hw' => ?hv0) ?_
  case hv0 => (go_simp; with_reducible rfl)
  simp only [Act.put, List.setIfInBounds_toArray, List.set_cons_zero, List.set_cons_succ]
  refine mix_take 1 _ ?_ rfl rfl rfl (some 6) rfl (fun w' hw' => ?hv1) ?_
  case hv1 =>
    have e0 := blk_cell hw'.2 46 _ hj0
    have e1 := blk_cell hw'.2 47 _ hj1
    have e2 := blk_cell hw'.2 48 _ hj2
    go_simp
    with_reducible rfl
  simp only [Act.put, List.setIfInBounds_toArray, List.set_cons_zero, List.set_cons_succ]
  refine mix_take 2 _ ?_ rfl rfl rfl (some 7) rfl (fun w' hw' => ?hv2) ?_
  case hv2 => (go_simp; with_reducible rfl)
  simp only [Act.put, List.setIfInBounds_toArray, List.set_cons_zero, List.set_cons_succ]
  refine mix_take 3 _ ?_ rfl rfl rfl (some 8) rfl (fun w' hw' => ?hv3) ?_
  case hv3 => (go_simp; with_reducible rfl)
  simp only [Act.put, List.setIfInBounds_toArray, List.set_cons_zero, List.set_cons_succ]
  refine mix_take 4 _ ?_ rfl rfl rfl (some 9) rfl (fun w' hw' => ?hv4) ?_
  case hv4 =>
    have e0 := blk_cell hw'.2 46 _ hj0
    have e1 := blk_cell hw'.2 47 _ hj1
    have e2 := blk_cell hw'.2 48 _ hj2
    go_simp
    with_reducible rfl
  simp only [Act.put, List.setIfInBounds_toArray, List.set_cons_zero, List.set_cons_succ]
  refine mix_take 5 _ ?_ rfl rfl rfl (some 10) rfl (fun w' hw' => ?hv5) ?_
  case hv5 => (go_simp; with_reducible rfl)
  simp only [Act.put, List.setIfInBounds_toArray, List.set_cons_zero, List.set_cons_succ]
  refine mix_call 6 _ rfl rfl rfl 45 #[.agg #[.slice ca (ci n).length cc, .slice ba (bps n (3 * n)).length bc, .func (.func 62) #[] (capD g)], .int .i64 k] (some 11) rfl ?hr6 ?_
  case hr6 => go_simp
  refine (doorsT_any n xs base g _ k _ HL.out (HRM.out.later W2.drew) hk).mono ?_
  rintro e w2 ⟨v, rfl, hp, hb2⟩
  rw [HD1.out] at hp
  obtain ⟨da, dc, db, rfl, hrd⟩ := pair_shape hp
  obtain ⟨rfl, hdb, c0, c1⟩ := hrd 0 (by simp)
  have hB2 : Below w.heap.size w w2 := W2.drew.trans (hb2.mono (by show w.heap.size ≤ w1.heap.size; omega))
  have hg2 := (hb2.block w.heap.size (by show _ < w1.heap.size; omega)).trans hg1
  have hz2 := (hb2.block (w.heap.size + 1) (by show _ < w1.heap.size; omega)).trans hz1
  have hs2 : w1.heap.size ≤ w2.heap.size := hb2.size
  rw [Nat.zero_mul] at c0 c1
  simp only [List.getD_cons_zero, Nat.zero_add] at c0 c1
  have hl1 : [(p1, p2)].length = 1 := rfl
  rw [hl1]
  refine ⟨_, rfl, ⟨hB2, hg2⟩, ?_⟩
  simp only [Act.put, List.setIfInBounds_toArray, List.set_cons_zero, List.set_cons_succ]
  refine mix_take 7 _ ?_ rfl rfl rfl (some 12) rfl (fun w' hw' => ?hv7) ?_
  case hv7 => (go_simp; with_reducible rfl)
  simp only [Act.put, List.setIfInBounds_toArray, List.set_cons_zero, List.set_cons_succ]
  refine mix_val 8 _ ?_ rfl rfl rfl (some 13) rfl ?hv8 ⟨⟨hB2, hg2⟩, ?_⟩
  case hv8 => (go_simp; with_reducible rfl)
  simp only [Act.put, List.setIfInBounds_toArray, List.set_cons_zero, List.set_cons_succ]
  refine mix_call 9 _ rfl rfl rfl 74 #[.agg #[.slice ca (ci n).length cc, .slice ba (bps n (3 * n)).length bc, .func (.func 62) #[] (capD g)], .int .i64 k, .agg #[.int .i64 p1, .int .i64 p2]] (some 14) rfl ?hr9 ?_
  case hr9 => go_simp
  have hwf := walkFrom_any _ #[] (capD g) (drB xs) (ci n) (bps n (3 * n)) (Pr.cnt n) base _ (k : Int) p1 p2 w2 (fgr_ci HL.out) (HRM.out.later hB2) (goes_ci h2 HG.out)
  rw [from_ci xs h2, HW.out] at hwf
  refine hwf.mono ?_
  rintro e w3 ⟨pv, u, v, rfl, ho3, hin, hb3⟩
  have ho3 := own_num ho3 (ints_len L).symm
  obtain ⟨-, pa, pc, pb, rfl, -⟩ := own_shape ho3
  have hB3 := bnext hB2 hb3
  have hg3 := (hb3.block w.heap.size (by omega)).trans hg2
  have hz3 := (hb3.block (w.heap.size + 1) (by omega)).trans hz2
  have hs3 := hb3.size
  have hwz : Hid ((wkA #[.slice ca (ci n).length cc, .slice ba (bps n (3 * n)).length bc, .func (.func 62) #[] (capD g)] (.slice pa (ints L).length pc) u v f).size = 7 ∧ (wkA #[.slice ca (ci n).length cc, .slice ba (bps n (3 * n)).length bc, .func (.func 62) #[] (capD g)] (.slice pa (ints L).length pc) u v f).all (·.oneCell') = true) := Lib.hid ⟨wkA_size _ _ _ _ _ hrs, wkA_one _ _ _ _ _ _ _ hro⟩
  refine ⟨_, rfl, ⟨hB3, hg3⟩, ?_⟩
  simp only [Act.put, List.setIfInBounds_toArray, List.set_cons_zero, List.set_cons_succ]
  refine mix_store_blk blkWalk 10 _ rfl rfl rfl _ _ rfl none rfl (w.heap.size + 1) (wkA #[.slice ca (ci n).length cc, .slice ba (bps n (3 * n)).length bc, .func (.func 62) #[] (capD g)] (.slice pa (ints L).length pc) u v f) zeroW rfl rfl hz3 zeroW_size hwz.out.1 hwz.out.2 w.heap.size (by omega) ?_
  intro w4 hg4 hb4 hk4 hs4
  refine ⟨⟨hB3.trans hb4, (hk4 w.heap.size (by omega)).trans hg3⟩, ?_⟩
  simp only [Act.put]
  refine mix_done ?_
  have ho4 := own_keep ho3 (fun q hq => hk4 q (by have := (ho3.lt q hq).1; omega))
  have hle : w.heap.size ≤ w2.heap.size := by omega
  simp only at hin
  go_wp2_with fail
  exact bodyPost_ret (results_blk1 blkWalk rfl _ _ (w.heap.size + 1) _ rfl hg4 hwz.out.1) rfl ⟨g, _, HRM.out, _, u, v, rfl, own_num (own_base ho4 hle) (ints_len L), hin, hB3.trans hb4⟩
end Go.Proofs.Ytgbfpmfennmebaa
