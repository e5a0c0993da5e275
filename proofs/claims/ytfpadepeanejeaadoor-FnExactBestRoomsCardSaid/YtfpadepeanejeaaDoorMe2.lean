import Derived.RegionTactic
import Derived.Test.YtfpadepeanejeaaDoorMe1
namespace Go.Proofs.YtfpadepeanejeaaDoor
open Go.RowKit
set_option maxRecDepth 4000
theorem shv_sh {w : World} (h : ShV w) (k : Nat) (hk : k < 6) : w.rangeAt 0 (3 * k) (shA k).toList := fun j v hv => by
  have hj : j < 3 := by have := (List.getElem?_eq_some_iff.1 hv).1; simpa [shA] using this
  rw [h.1 (3 * k + j) (by omega)]
  rcases (by omega : j = 0 ∨ j = 1 ∨ j = 2) with rfl | rfl | rfl <;> exact hv
set_option maxHeartbeats 3200000 in
theorem bestSharing_any (g f : Nat → Int) (hf : ∀ k, k < 6 → smv (fun p q => g (3 * p + q)) (shS k) 3 = f k) (hg : ∀ q, q < 9 → -1000 ≤ g q ∧ g q ≤ 1000) (j0 : Nat) (hj0 : IsB f 6 j0) (w : World) (hv : ShV w) :
    Calls Tryd.prog 43 #[.agg (arrF 9 g)] w fun e w' => e = .returned (.agg (shA j0)) ∧ Below w.heap.size w w' := by
  have HI := Lib.hid (fun k hk w => idxAll k hk w)
  have HE : Hid (∀ k, k < 6 → ∀ w : World, Calls Tryd.prog 34 #[.agg (arrF 9 g), .agg (shA k)] w fun e w' => e = .returned (.int .i64 (f k)) ∧ Below w.heap.size w w') := Lib.hid (fun k hk w => by
    have := offSum_any g hg k hk w
    rwa [hf k hk] at this)
  have HJ := Lib.hid hj0
  obtain ⟨hg0, hg1⟩ := two_heap w (.cells (arrF 9 g) 56) (.cells zeroH 51)
  have hb0 := balloc (balloc (Below.refl w.heap.size w) (.cells (arrF 9 g) 56)) (.cells zeroH 51)
  have hz0 : ((w.alloc (.cells (arrF 9 g) 56)).alloc (.cells zeroH 51)).heap.size = w.heap.size + 2 := by simp
  have hrg0 := shv_sh (ShV_later hv hb0) 0 (by omega)
  have hg2 := heap_alloc_new ((w.alloc (.cells (arrF 9 g) 56)).alloc (.cells zeroH 51)) (.cells zeroH 51)
  rw [hz0] at hg2
  have hb2 := balloc hb0 (.cells zeroH 51)
  have hg02 := (Below.heap_alloc ((w.alloc (.cells (arrF 9 g) 56)).alloc (.cells zeroH 51)) (.cells zeroH 51) _ (show w.heap.size < _ by omega)).trans hg0
  have hg12 := (Below.heap_alloc ((w.alloc (.cells (arrF 9 g) 56)).alloc (.cells zeroH 51)) (.cells zeroH 51) _ (show w.heap.size + 1 < _ by omega)).trans hg1
  have HV := Lib.hid hv
  clear hv hf hg hj0
  go_enter Tryd.func43, Tryd.ntmps43
  go_wp2_with (first | ((with_reducible refine alloc_blk zeroH run_alloc_sh rfl rfl ?_); simp only [World.size_alloc, Act.put, List.setIfInBounds_toArray, List.set_cons_zero, List.set_cons_succ]) | ((with_reducible refine load_rng blkSh ?_ _ rfl 0 0 ?_ (shA 0) hrg0 (shA_size _) ?_); exact rfl; exact rfl; simp only [Act.put, List.setIfInBounds_toArray, List.set_cons_zero, List.set_cons_succ]) | ((with_reducible refine store_blk blkSh rfl _ _ rfl (w.heap.size + 2) (shA 0) zeroH ?_ ?_ hg2 zeroH_size (shA_size _) (shA_one _) (w.heap.size + 2) (Nat.le_refl _) ?_); exact rfl; exact rfl; intro w4 hg4 hb4 hk4 hz4; have hg04 := (hk4 w.heap.size (by omega)).trans hg02; have hg14 := (hk4 (w.heap.size + 1) (by omega)).trans hg12; have hB4 : Below w.heap.size w w4 := hb2.trans (hb4.mono (by omega)); have hrg4 := shv_range (ShV_later HV.out hB4)) | ((with_reducible refine load_rng blkAll ?_ _ rfl 0 0 ?_ (arrF 18 shn) hrg4 (arrF_size _ _) ?_); exact rfl; exact rfl; simp only [Act.put, List.setIfInBounds_toArray, List.set_cons_zero, List.set_cons_succ]))
  clear hg0 hg1 hb0 hz0 hrg0 hg2 hb2 hg02 hg12 hb4 hk4 hz4 hrg4
  generalize arrF 18 shn = ar at *
  go_loopw [9] (fun v9 wr => ∃ k j : Nat, k ≤ 6 ∧ v9 = .int .i64 k ∧ j < 6 ∧ ((k = 0 ∧ j = 0) ∨ IsB f k j) ∧ Below w.heap.size w wr ∧ wr.heap[w.heap.size]? = some (.cells (arrF 9 g) 56 (0, 0)) ∧ wr.heap[w.heap.size + 1]? = some (.cells zeroH 51 (0, 0)) ∧ wr.heap[w.heap.size + 2]? = some (.cells (shA j) 51 (0, 0))) (fun v9 _ => 6 - (intOf v9).toNat)
  case atStart => exact ⟨0, 0, by omega, rfl, by omega, .inl ⟨rfl, rfl⟩, hB4, hg04, hg14, hg4⟩
  case round =>
    clear hB4 hg04 hg14 hg4
    obtain ⟨k, j, hk, rfl, hj6, hst, hb, hg0, hg1, hg2⟩ := hrel
    obtain ⟨wq, rfl⟩ : ∃ wq : World, wq = wr := ⟨_, rfl⟩
    have HST := Lib.hid hst
    clear hst
    have hz : w.heap.size + 2 < wq.heap.size := (Array.getElem?_eq_some_iff.1 hg2).1
    by_cases hlt : k < 6
    · have hki : (k : Int) < 6 := by omega
      have hidx := HI.out k hlt
      have HSA : Hid (shA k = #[.int .i64 (shn (3 * k)), .int .i64 (shn (3 * k + 1)), .int .i64 (shn (3 * k + 2))]) := Lib.hid rfl
      obtain ⟨w6, hw6⟩ : ∃ w1, w1 = wq.alloc (.cells (shA k) 51) := ⟨_, rfl⟩
      have hb6 : Below wq.heap.size wq w6 := by rw [hw6]; exact balloc (Below.refl _ _) _
      have hg6 : w6.heap[wq.heap.size]? = some (.cells (shA k) 51 (0, 0)) := by rw [hw6]; exact heap_alloc_new _ _
      have hB6 := bnext hb hb6
      have hg06 := (hb6.block w.heap.size (by omega)).trans hg0
      have hg16 := (hb6.block (w.heap.size + 1) (by omega)).trans hg1
      have hg26 := (hb6.block (w.heap.size + 2) (by omega)).trans hg2
      have hz6 : w6.heap.size = wq.heap.size + 1 := by rw [hw6]; simp
      have HSTEP : Hid (∀ j', j' = (if f j < f k then k else j) → IsB f (k + 1) j') := Lib.hid (fun j' e => by
        subst e
        rcases HST.out with ⟨rfl, rfl⟩ | h
        · rw [if_neg (by omega)]
          exact IsB.one f
        · exact h.step)
      rw [HSA.out] at hw6
      have HW6 := Lib.hid hw6
      clear hw6 HST
      generalize shn (3 * k) = x at hidx HW6
      generalize shn (3 * k + 1) = y at hidx HW6
      generalize shn (3 * k + 2) = z at hidx HW6
      go_wp2_with fail
      rw [← HW6.out]
      have hS6 : w6.heap[w.heap.size]? = some (.cells (arrF 9 g) 56 (0, 0)) ∧ w6.heap[w.heap.size + 2]? = some (.cells (shA j) 51 (0, 0)) ∧ w6.heap[wq.heap.size]? = some (.cells (shA k) 51 (0, 0)) := ⟨hg06, hg26, hg6⟩
      have hS16 := hg16
      refine wp_region_mix (fun w' => w'.heap[w.heap.size]? = some (.cells (arrF 9 g) 56 (0, 0)) ∧ w'.heap[w.heap.size + 2]? = some (.cells (shA j) 51 (0, 0)) ∧ w'.heap[wq.heap.size]? = some (.cells (shA k) 51 (0, 0))) [2, 5] [0, 1, 3, 4, 2, 5, 6] (by kernel_rfl) (by kernel_rfl) (fun _ _ d _ _ h => by cases d <;> exact h) (by kernel_rfl) rfl hS6 ?_
      refine mix_take 0 _ (.agg (arrF 9 g)) rfl rfl rfl (some 12) rfl (fun w' hw' => exec_row _ _ rfl (w.heap.size) rfl (arrF 9 g) (load_ok blkOff w' _ _ hw'.1 (arrF_size _ _))) ?_
      simp only [Act.put, List.setIfInBounds_toArray, List.set_cons_zero, List.set_cons_succ]
      refine mix_take 1 _ (.agg (shA k)) rfl rfl rfl (some 13) rfl (fun w' hw' => exec_row _ _ rfl (wq.heap.size) rfl (shA k) (load_ok blkSh w' _ _ hw'.2.2 (shA_size _))) ?_
      simp only [Act.put, List.setIfInBounds_toArray, List.set_cons_zero, List.set_cons_succ]
      refine mix_take 3 _ (.agg (arrF 9 g)) rfl rfl rfl (some 15) rfl (fun w' hw' => exec_row _ _ rfl (w.heap.size) rfl (arrF 9 g) (load_ok blkOff w' _ _ hw'.1 (arrF_size _ _))) ?_
      simp only [Act.put, List.setIfInBounds_toArray, List.set_cons_zero, List.set_cons_succ]
      refine mix_take 4 _ (.agg (shA j)) rfl rfl rfl (some 16) rfl (fun w' hw' => exec_row _ _ rfl (w.heap.size + 2) rfl (shA j) (load_ok blkSh w' _ _ hw'.2.1 (shA_size _))) ?_
      simp only [Act.put, List.setIfInBounds_toArray, List.set_cons_zero, List.set_cons_succ]
      refine mix_call 2 _ rfl rfl rfl 34 #[.agg (arrF 9 g), .agg (shA k)] (some 14) rfl ?hr2 ?_
      case hr2 => go_simp
      refine (HE.out k hlt _).mono ?_
      rintro e w7 ⟨rfl, hbw7'⟩
      have hbw7 : Below w6.heap.size w6 w7 := ((Same.refl w6).drew w6.heap.size).trans hbw7'
      have hBw7 := bnext hB6 hbw7
      have hSw7 : w7.heap[w.heap.size]? = some (.cells (arrF 9 g) 56 (0, 0)) ∧ w7.heap[w.heap.size + 2]? = some (.cells (shA j) 51 (0, 0)) ∧ w7.heap[wq.heap.size]? = some (.cells (shA k) 51 (0, 0)) := ⟨(hbw7.block _ (by omega)).trans hS6.1, (hbw7.block _ (by omega)).trans hS6.2.1, (hbw7.block _ (by omega)).trans hS6.2.2⟩
      have hzw7 := hbw7.size
      refine ⟨_, rfl, hSw7, ?_⟩
      simp only [Act.put, List.setIfInBounds_toArray, List.set_cons_zero, List.set_cons_succ]
      refine mix_call 5 _ rfl rfl rfl 34 #[.agg (arrF 9 g), .agg (shA j)] (some 17) rfl ?hr5 ?_
      case hr5 => go_simp
      refine (HE.out j hj6 _).mono ?_
      rintro e w8 ⟨rfl, hbw8'⟩
      have hbw8 : Below w7.heap.size w7 w8 := hbw8'
      have hBw8 := bnext hBw7 hbw8
      have hSw8 : w8.heap[w.heap.size]? = some (.cells (arrF 9 g) 56 (0, 0)) ∧ w8.heap[w.heap.size + 2]? = some (.cells (shA j) 51 (0, 0)) ∧ w8.heap[wq.heap.size]? = some (.cells (shA k) 51 (0, 0)) := ⟨(hbw8.block _ (by omega)).trans hSw7.1, (hbw8.block _ (by omega)).trans hSw7.2.1, (hbw8.block _ (by omega)).trans hSw7.2.2⟩
      have hzw8 := hbw8.size
      refine ⟨_, rfl, hSw8, ?_⟩
      simp only [Act.put, List.setIfInBounds_toArray, List.set_cons_zero, List.set_cons_succ]
      refine mix_take 6 _ ?_ rfl rfl rfl (some 18) rfl (fun w' hw' => ?hv6) ?_
      case hv6 =>
        go_simp
        with_reducible rfl
      simp only [Act.put, List.setIfInBounds_toArray, List.set_cons_zero, List.set_cons_succ]
      refine mix_done ?_
      have hg18 := (hbw8.block (w.heap.size + 1) (by omega)).trans ((hbw7.block (w.heap.size + 1) (by omega)).trans hg16)
      by_cases hgt : f j < f k
      · have HN := Lib.hid (HSTEP.out k (by rw [if_pos hgt]))
        clear HSTEP
        generalize f k = fk at *
        generalize f j = fj at *
        go_wp2_with (first | ((with_reducible refine load_blk blkSh ?_ _ rfl (wq.heap.size) ?_ (shA k) hSw8.2.2 (shA_size _) ?_); exact rfl; exact rfl; simp only [Act.put, List.setIfInBounds_toArray, List.set_cons_zero, List.set_cons_succ]) | ((with_reducible refine store_blk blkSh rfl _ _ rfl (w.heap.size + 2) (shA k) (shA j) ?_ ?_ hSw8.2.1 (shA_size _) (shA_size _) (shA_one _) (w.heap.size + 2) (Nat.le_refl _) ?_); exact rfl; exact rfl; intro w9 hg9 hb9 hk9 hz9))
        go_round
        case rel => exact ⟨k + 1, k, by omega, by go_num, hlt, .inr HN.out, hBw8.trans (hb9.mono (by omega)), (hk9 _ (by omega)).trans hSw8.1, (hk9 _ (by omega)).trans hg18, hg9⟩
        case measure => simp [intOf]; omega
      · have HN := Lib.hid (HSTEP.out j (by rw [if_neg hgt]))
        clear HSTEP
        generalize f k = fk at *
        generalize f j = fj at *
        go_wp2_with fail
        go_round
        case rel => exact ⟨k + 1, j, by omega, by go_num, hj6, .inr HN.out, hBw8, hSw8.1, hg18, hSw8.2.1⟩
        case measure => simp [intOf]; omega
    · obtain rfl : k = 6 := by omega
      have hj0 : j = j0 := by
        rcases HST.out with ⟨h, -⟩ | h
        · omega
        · exact h.uniq HJ.out
      subst hj0
      clear HST
      go_wp2_with (first | ((with_reducible refine load_blk blkSh ?_ _ rfl (w.heap.size + 2) ?_ (shA j) hg2 (shA_size _) ?_); exact rfl; exact rfl; simp only [Act.put, List.setIfInBounds_toArray, List.set_cons_zero, List.set_cons_succ]) | ((with_reducible refine store_blk blkSh rfl _ _ rfl (w.heap.size + 1) (shA j) zeroH ?_ ?_ hg1 zeroH_size (shA_size _) (shA_one _) w.heap.size (by omega) ?_); exact rfl; exact rfl; intro w7 hg7 hb7 _ _))
      try rw [Exit.noGoto_ret]
      exact bodyPost_ret (results_blk1 blkSh rfl _ _ (w.heap.size + 1) _ rfl hg7 (shA_size _)) rfl ⟨rfl, hb.trans hb7⟩
end Go.Proofs.YtfpadepeanejeaaDoor
