import Derived.Test.YtelchpdlfedleaaS32
namespace Go.Proofs.Ytelchpdlfedleaa
open Go.RowKit
set_option maxRecDepth 4000
set_option maxHeartbeats 6400000 in
theorem fixedPoints_any (n : Nat) (h1 : 1 ≤ n) (h2 : n ≤ 5) (im : List (List Int)) (hy : imB n im = true) (w : World) :
    Calls Try.prog 73 #[.agg (mapA n im)] w fun e w' => ∃ v, e = .returned v ∧ FpV im n w' w.heap.size v (ksL im n (ci n).length) ∧ Below w.heap.size w w' := by
  have h64 := ci_len64 n (by omega)
  have hm0 : (mapA n im)[0]? = some (.int .i64 n) := mapF_zero _ _
  have HK := Lib.hid (fun k (hk : k < (ci n).length) w => areasIn_cell n k h1 h2 hk im hy w)
  have HG := Lib.hid (fun k w => agree_cell n k im w)
  have HWT := Lib.hid (fun k (hk : k < (ci n).length) hg w => weights_cell n k h2 hk im hy hg w)
  have HSG := Lib.hid (fun k (hk : k < (ci n).length) hg w => signIn_any n k h1 h2 hk im hy hg w)
  have HY := Lib.hid (ksL_yes im n)
  have HN := Lib.hid (ksL_no im n)
  have HLN := Lib.hid (ksL_len im n)
  obtain ⟨-, hall⟩ := ci_cq n (by omega)
  have HALL := Lib.hid hall
  have hb0 := balloc (Below.refl w.heap.size w) (.cells (mapA n im) 53)
  have hg0 := heap_alloc_new w (.cells (mapA n im) 53)
  have hz0 : (w.alloc (.cells (mapA n im) 53)).heap.size = w.heap.size + 1 := by simp
  have HK0 : Hid (ksL im n 0 = []) := Lib.hid rfl
  clear hy hall
  go_enter Try.func73, Try.ntmps73
  go_wp2_with fail
  refine (cells_any n h1 (by omega) _).mono ?_
  rintro e w1 ⟨v, rfl, hc1, hb1⟩
  obtain ⟨hfl, a, cap, b, rfl, hrd⟩ := trio_shape hc1
  have hg1 := (hb1.block w.heap.size (by omega)).trans hg0
  have hB1 := bnext hb0 hb1
  have hlt1 : w.heap.size < w1.heap.size := by have := hb1.size; omega
  have HRD := Lib.hid hrd
  have HFL := Lib.hid hfl
  have HBL : Hid (∀ j, j < (ci n).flatten.length → b < w1.heap.size) := Lib.hid (fun j hj => own_lt hc1 b (by rw [(hrd j hj).1]; rfl))
  clear hb1 hc1 hrd hfl hg0 hb0 hz0 hm0
  go_wp2_with fail
  go_loopw [3, 11] (fun v3 v11 wr => ∃ k : Nat, k ≤ (ci n).length ∧ v11 = .int .i64 k ∧ FpV im n wr w1.heap.size v3 (ksL im n k) ∧ Below w1.heap.size w1 wr) (fun _ v11 _ => (ci n).length - (intOf v11).toNat)
  case atStart => exact ⟨0, Nat.zero_le _, rfl, by rw [HK0.out]; exact World.ownsRow_nil _ _ _ _, Below.refl _ _⟩
  case round =>
    obtain ⟨k, hk, rfl, ho, hb⟩ := hrel
    obtain ⟨wq, rfl⟩ : ∃ wq : World, wq = wr := ⟨_, rfl⟩
    by_cases hlt : k < (ci n).length
    · obtain ⟨-, hx, hy, hz, -, -, -⟩ := HALL.out k hlt
      obtain ⟨rfl, c0⟩ := HRD.out (k * 3) (by have := HFL.out; omega)
      have c1 := (HRD.out (k * 3 + 1) (by have := HFL.out; omega)).2
      have c2 := (HRD.out (k * 3 + 2) (by have := HFL.out; omega)).2
      have hbl := HBL.out (k * 3) (by have := HFL.out; omega)
      rw [hx] at c0
      rw [hy] at c1
      rw [hz] at c2
      have d0 := (hb.cell (p := ⟨b, k * 3, none⟩) hbl).trans c0
      have d1 := (hb.cell (p := ⟨b, k * 3 + 1, none⟩) hbl).trans c1
      have d2 := (hb.cell (p := ⟨b, k * 3 + 2, none⟩) hbl).trans c2
      have hgr := (hb.block w.heap.size hlt1).trans hg1
      have hzr := hb.size
      have hgA : (wq.alloc (.cells #[.int .i64 (cq n k 0 : Nat), .int .i64 (cq n k 1 : Nat), .int .i64 (cq n k 2 : Nat)] 61)).heap[w.heap.size]? = some (.cells (mapA n im) 53 (0, 0)) := (Below.heap_alloc wq _ _ (by omega)).trans hgr
      have hgT : (wq.alloc (.cells #[.int .i64 (cq n k 0 : Nat), .int .i64 (cq n k 1 : Nat), .int .i64 (cq n k 2 : Nat)] 61)).heap[wq.heap.size]? = some (.cells (trA n k) 61 (0, 0)) := heap_alloc_new wq _
      have HKk := Lib.hid (HK.out k hlt)
      have HGk := Lib.hid (HG.out k)
      have HWk := Lib.hid (HWT.out k hlt)
      have HSk := Lib.hid (HSG.out k hlt)
      have HYk := Lib.hid (HY.out k)
      have HNk := Lib.hid (HN.out k)
      have hlk := HLN.out k
      have hki : (k : Int) < ((ci n).length : Int) := by omega
      have hBq := balloc hb (.cells #[.int .i64 (cq n k 0 : Nat), .int .i64 (cq n k 1 : Nat), .int .i64 (cq n k 2 : Nat)] 61)
      have hoq := fp_now ho (balloc (Below.refl wq.heap.size wq) (.cells #[.int .i64 (cq n k 0 : Nat), .int .i64 (cq n k 1 : Nat), .int .i64 (cq n k 2 : Nat)] 61))
      clear c0 c1 c2 hx hy hz hgr ho hb
      go_wp2_with (first | ((with_reducible refine load_blk blkM ?_ _ rfl (w.heap.size) ?_ (mapA n im) hgA (mapA_size _ _) ?_); exact rfl; exact rfl; simp only [Act.put, List.setIfInBounds_toArray, List.set_cons_zero, List.set_cons_succ]))
      refine (HKk.out _).mono ?_
      rintro e w3 ⟨rfl, hb3⟩
      have hB3 := hBq.trans (hb3.mono (by simp; omega))
      have hz3 := hB3.size
      have ho3 := fp_now hoq hb3
      have hgA3 := heap_later hgA hb3
      have hgT3 := heap_later hgT hb3
      have hgn3 := heap_later hgA3 (balloc (Below.refl w3.heap.size w3) (.cells zspot 71))
      have hgt3 := heap_later hgT3 (balloc (Below.refl w3.heap.size w3) (.cells zspot 71))
      have hlA : w.heap.size < w3.heap.size := by omega
      have hlT : wq.heap.size < w3.heap.size := (Array.getElem?_eq_some_iff.1 hgT3).1
      clear hoq hb3 hgA hgT
      go_wp2_with (first | (with_reducible refine alloc_blk zspot run_alloc_ar rfl rfl ?_) | ((with_reducible refine store_blk blkAr rfl _ _ rfl (w3.heap.size) (arK im n k) (zspot) ?_ ?_ (heap_alloc_new _ _) (zspot_size) (arK_size _ _ _) (arK_one _ _ _) (w3.heap.size) (by omega) ?_); exact rfl; exact rfl; intro w4 hg4 hb4 hk4 hz4; have hB34 : Below w3.heap.size w3 w4 := (balloc (Below.refl w3.heap.size w3) (.cells zspot 71)).trans hb4; have hB4 := hB3.trans (hB34.mono hz3)) | ((with_reducible refine load_blk blkAr ?_ _ rfl (w3.heap.size) ?_ (arK im n k) hg4 (arK_size _ _ _) ?_); exact rfl; exact rfl; simp only [Act.put, List.setIfInBounds_toArray, List.set_cons_zero, List.set_cons_succ]))
      refine (HGk.out _).mono ?_
      rintro e w5 ⟨rfl, hb5⟩
      have hB5 := hB4.trans (hb5.mono hB4.size)
      have hg5 := heap_later hg4 hb5
      have ho5 := fp_now (fp_now ho3 hB34) hb5
      have hA5 := heap_later (heap_later hgA3 hB34) hb5
      have hT5 := heap_later (heap_later hgT3 hB34) hb5
      have hz5 := hB5.size
      clear ho3 hgA3 hgT3 hgn3 hgt3 hB34 hB4 hb4 hk4 hz4 hb5 hg4 hB3
      cases hG : agK im n k
      · have HE := Lib.hid (HNk.out hG)
        clear hG
        go_wp2_with fail
        go_roundw
        case rel => exact ⟨k + 1, by omega, by go_num, by rw [HE.out]; exact ho5, hB5⟩
        case measure => simp [intOf]; omega
      · have HE := Lib.hid (HYk.out hG)
        have HW2 := Lib.hid (HWk.out hG)
        have HS2 := Lib.hid (HSk.out hG)
        have hbd := run_build_fp (k : Nat) (wq' im n k 0) (wq' im n k 1) (wq' im n k 2) (sgK im n k)
        clear hG
        go_wp2_with fail
        refine wp_region_mix (fun w' => w'.heap[w.heap.size]? = some (.cells (mapA n im) 53 (0, 0)) ∧ w'.heap[wq.heap.size]? = some (.cells (trA n k) 61 (0, 0)) ∧ w'.heap[w3.heap.size]? = some (.cells (arK im n k) 71 (0, 0))) [3, 6, 8, 9] [0, 1, 2, 4, 5, 3, 6, 7, 8, 9, 10] (by kernel_rfl) (by kernel_rfl) (fun _ _ d _ _ h => by cases d <;> exact h) (by kernel_rfl) rfl ⟨hA5, hT5, hg5⟩ ?_
        refine mix_take 0 _ ?_ rfl rfl rfl (some 21) rfl (fun w' hw' => ?hv0) ?_
        case hv0 =>
          go_simp
          with_reducible rfl
        simp only [Act.put, List.setIfInBounds_toArray, List.set_cons_zero, List.set_cons_succ]
        refine mix_take 1 _ ?_ rfl rfl rfl (some 22) rfl (fun w' hw' => ?hv1) ?_
        case hv1 =>
          go_simp
          with_reducible rfl
        simp only [Act.put, List.setIfInBounds_toArray, List.set_cons_zero, List.set_cons_succ]
        refine mix_take 2 _ (.agg (arK im n k)) rfl rfl rfl (some 23) rfl (fun w' hw' => exec_row _ _ rfl (w3.heap.size) rfl (arK im n k) (blk_load blkAr w' _ _ hw'.2.2 (arK_size _ _ _))) ?_
        simp only [Act.put, List.setIfInBounds_toArray, List.set_cons_zero, List.set_cons_succ]
        refine mix_take 4 _ (.agg (mapA n im)) rfl rfl rfl (some 25) rfl (fun w' hw' => exec_row _ _ rfl (w.heap.size) rfl (mapA n im) (blk_load blkM w' _ _ hw'.1 (mapA_size _ _))) ?_
        simp only [Act.put, List.setIfInBounds_toArray, List.set_cons_zero, List.set_cons_succ]
        refine mix_take 5 _ (.agg (trA n k)) rfl rfl rfl (some 26) rfl (fun w' hw' => exec_row _ _ rfl (wq.heap.size) rfl (trA n k) (blk_load blkTr w' _ _ hw'.2.1 (trA_size _ _))) ?_
        simp only [Act.put, List.setIfInBounds_toArray, List.set_cons_zero, List.set_cons_succ]
        refine mix_call 3 _ rfl rfl rfl 67 #[.agg (arK im n k)] (some 24) rfl ?hr3 ?_
        case hr3 => go_simp
        refine (HW2.out _).mono ?_
        rintro e w6 ⟨rfl, hb6⟩
        have hb6' : Below w5.heap.size w5 w6 := ((Same.refl w5).drew w5.heap.size).trans hb6
        have hA6 := heap_later hA5 hb6'
        have hT6 := heap_later hT5 hb6'
        have hg6 := heap_later hg5 hb6'
        have ho6 := fp_now ho5 hb6'
        refine ⟨_, rfl, ⟨hA6, hT6, hg6⟩, ?_⟩
        simp only [Act.put, List.setIfInBounds_toArray, List.set_cons_zero, List.set_cons_succ]
        refine mix_call 6 _ rfl rfl rfl 69 #[.agg (mapA n im), .agg (trA n k)] (some 27) rfl ?hr6 ?_
        case hr6 => go_simp
        refine (HS2.out _).mono ?_
        rintro e w7 ⟨rfl, hb7⟩
        have hA7 := heap_later hA6 hb7
        have hT7 := heap_later hT6 hb7
        have hg7 := heap_later hg6 hb7
        have ho7 := fp_now ho6 hb7
        have hB7 := hB5.trans ((bnext hb6' hb7).mono hz5)
        refine ⟨_, rfl, ⟨hA7, hT7, hg7⟩, ?_⟩
        simp only [Act.put, List.setIfInBounds_toArray, List.set_cons_zero, List.set_cons_succ]
        refine mix_take 7 _ (.agg (fp5 (k : Nat) (wq' im n k 0) (wq' im n k 1) (wq' im n k 2) (sgK im n k))) rfl rfl rfl (some 28) rfl (fun w' hw' => exec_build3 81 0 1 2 _ _ _ rfl (.int .i64 (k : Nat)) (.agg (wtA im n k)) (.int .i64 (sgK im n k)) rfl rfl rfl _ (hbd w')) ?_
        simp only [Act.put, List.setIfInBounds_toArray, List.set_cons_zero, List.set_cons_succ]
        have hba := balloc (Below.refl w7.heap.size w7) (.cells (fp5 (k : Nat) (wq' im n k 0) (wq' im n k 1) (wq' im n k 2) (sgK im n k)) 81)
        have hA8 := heap_later hA7 hba
        have hT8 := heap_later hT7 hba
        have hg8 := heap_later hg7 hba
        have ho8 := fp_now ho7 hba
        refine mix_build_fp 8 _ rfl rfl rfl _ rfl (some 29) rfl _ _ _ _ _ rfl ⟨⟨hA8, hT8, hg8⟩, ?_⟩
        simp only [Act.put, List.setIfInBounds_toArray, List.set_cons_zero, List.set_cons_succ]
        have hz7 := hB7.size
        refine mix_append_fp im n 9 _ rfl rfl w1.heap.size w7.heap.size _ (ksL im n k) k rfl _ _ rfl (some 30) rfl rfl rfl (heap_alloc_new w7 _) ho8 (by simp only [World.size_alloc]; omega) (by omega) ?_
        intro v' w9 ho9 hb9 hk9
        have nA := own_nb6 ho8 hA8 (by decide)
        have nT := own_nb6 ho8 hT8 (by decide)
        have nG := own_nb6 ho8 hg8 (by decide)
        have hB9 := (hB7.trans (hba.mono hz7)).trans hb9
        refine ⟨⟨(hk9 _ (Array.getElem?_eq_some_iff.1 hA8).1 nA).trans hA8, (hk9 _ (Array.getElem?_eq_some_iff.1 hT8).1 nT).trans hT8, (hk9 _ (Array.getElem?_eq_some_iff.1 hg8).1 nG).trans hg8⟩, ?_⟩
        simp only [Act.put, List.setIfInBounds_toArray, List.set_cons_zero, List.set_cons_succ]
        refine mix_take 10 _ ?_ rfl rfl rfl (some 3) rfl (fun w' hw' => ?hv10) ?_
        case hv10 =>
          go_simp
          with_reducible rfl
        simp only [Act.put, List.setIfInBounds_toArray, List.set_cons_zero, List.set_cons_succ]
        refine mix_done ?_
        clear hk9 nA nT nG hA8 hT8 hg8 ho8 hba hA7 hT7 hg7 ho7 hA6 hT6 hg6 ho6 hb6' hb6 hb7 hB7 hB5
        go_wp2_with fail
        go_roundw
        case rel => exact ⟨k + 1, by omega, by go_num, by rw [HE.out]; exact ho9, hB9⟩
        case measure => simp [intOf]; omega
    · have hk2 : k = (ci n).length := by omega
      rw [hk2] at ho
      clear hk2
      go_wp2_with fail
      go_ret
      exact ⟨_, rfl, ⟨ho.1, by
        rcases ho.2 with h | ⟨g, cp, cur, hv, hg', r⟩
        · exact .inl h
        · exact .inr ⟨g, cp, cur, hv, by omega, r⟩⟩, bnext hB1 hb⟩
end Go.Proofs.Ytelchpdlfedleaa
