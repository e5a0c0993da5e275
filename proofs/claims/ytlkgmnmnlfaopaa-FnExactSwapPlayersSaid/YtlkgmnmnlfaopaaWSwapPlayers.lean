import Derived.LoopN
import Derived.BigRegion
import Derived.BigQuiet
import Derived.RegionTactic
import Derived.Test.YtlkgmnmnlfaopaaQ23
namespace Go.Proofs.Ytlkgmnmnlfaopaa
open Go.RowKit
set_option maxRecDepth 4000
set_option maxHeartbeats 3200000 in
theorem specSwapPlayers (gr gc : List (List Int)) (ar ac : Option Addr) (cr cc : Nat) (w : World) (hr : RdSS w w.heap.size ar gr) (hc : RdSS w w.heap.size ac gc) :
    Calls Try.prog 40 #[.agg #[.slice ar gr.length cr, .slice ac gc.length cc]] w (OutSwapPlayers w (if gameB gr gc then trL gc gr.length (gr.getD 0 []).length else []) (if gameB gr gc then trL gr gr.length (gr.getD 0 []).length else []) (gameB gr gc)) := by
  obtain ⟨w1, hw1⟩ : ∃ w1, w1 = (w.alloc (.cells #[.slice ar gr.length cr, .slice ac gc.length cc] 27)) := ⟨_, rfl⟩
  obtain ⟨w2, hw2⟩ : ∃ w2, w2 = (w1.alloc (.cells zgame 27)) := ⟨_, rfl⟩
  have hb1 : Below w.heap.size w w1 := by rw [hw1]; exact balloc (Below.refl w.heap.size w) _
  have hb2 : Below w1.heap.size w1 w2 := by rw [hw2]; exact balloc (Below.refl w1.heap.size w1) _
  have hz1 : w1.heap.size = w.heap.size + 1 := by rw [hw1]; simp
  have hz2 : w2.heap.size = w.heap.size + 2 := by rw [hw2, World.size_alloc, hz1]
  have g1 : w1.heap[w.heap.size]? = some (.cells #[.slice ar gr.length cr, .slice ac gc.length cc] 27 (0, 0)) := by rw [hw1]; exact heap_alloc_new w _
  have g1 := hp_later g1 hb2
  have g2 : w2.heap[w.heap.size + 1]? = some (.cells zgame 27 (0, 0)) := by rw [hw2, ← hz1]; exact heap_alloc_new w1 _
  have hb := bnext hb1 hb2
  have hr2 := rdss_chg hr (chg_below hb) (Nat.le_refl _) (.inr rfl)
  have hc2 := rdss_chg hc (chg_below hb) (Nat.le_refl _) (.inr rfl)
  have HG := Lib.hid (gmGood_any gr gc ar ac cr cc w.heap.size w2 hr2 hc2 (by omega))
  have HW1 := Lib.hid hw1
  have HW2 := Lib.hid hw2
  have HZ2 := Lib.hid hz2
  have c0 := blk_cell g1 0 _ rfl
  have c1 := blk_cell g1 1 _ rfl
  cases eg : gameB gr gc
  · rw [eg] at HG
    clear hw1 hw2 hr hc hb1 hb2 hz1 hz2 hr2 hc2 eg
    go_enter Try.func40, Try.ntmps40
    go_wp2_with ((with_reducible refine alloc_blk zgame run_alloc_game rfl rfl ?_); simp only [World.size_alloc, Act.put, List.setIfInBounds_toArray, List.set_cons_zero, List.set_cons_succ])
    rw [← HW1.out, ← HW2.out]
    refine HG.out.mono ?_
    rintro e w3 ⟨rfl, hb3⟩
    have k2 := hp_later g2 hb3
    go_wp2_with (first | (with_reducible refine build0_blk zgame run_build0_game rfl rfl ?_) | ((with_reducible refine store_blk blkG rfl _ _ rfl (w.heap.size + 1) (zgame) (zgame) ?_ ?_ k2 (rfl) (rfl) (zgame_one) (w.heap.size) (by omega) ?_); exact rfl; exact rfl; intro w5 hg5 hb5 hk5 hz5))
    exact bodyPost_ret (results_blk blkG rfl _ _ (w.heap.size + 1) _ (.bool false) rfl rfl hg5 rfl) rfl ⟨_, _, rfl, og_nil _ _ _ ((bnext hb hb3).trans hb5).size, (bnext hb hb3).trans hb5⟩
  · rw [eg] at HG
    obtain ⟨k1, k2⟩ := gameB_sizes eg
    have HK1 := Lib.hid k1
    have HK2 := Lib.hid k2
    have HR2 := Lib.hid hr2
    have HC2 := Lib.hid hc2
    have hle : w.heap.size ≤ w2.heap.size := by omega
    clear hw1 hw2 hr hc hb1 hb2 hz1 hz2 hr2 hc2 eg k1 k2
    rw [if_pos rfl, if_pos rfl]
    generalize (gr.getD 0 []).length = n at *
    go_enter Try.func40, Try.ntmps40
    go_wp2_with ((with_reducible refine alloc_blk zgame run_alloc_game rfl rfl ?_); simp only [World.size_alloc, Act.put, List.setIfInBounds_toArray, List.set_cons_zero, List.set_cons_succ])
    rw [← HW1.out, ← HW2.out]
    refine HG.out.mono ?_
    rintro e w3 ⟨rfl, hb3⟩
    have hz3 := hb3.size
    have k3 := hp_later g1 hb3
    have k2 := hp_later g2 hb3
    go_wp2_with fail
    refine wp_region_mix (fun w' => w'.heap[w.heap.size]? = some (.cells #[.slice ar gr.length cr, .slice ac gc.length cc] 27 (0, 0))) [2, 5, 7] [0, 1, 3, 4, 2, 5, 6, 7, 8] (by kernel_rfl) (by kernel_rfl) (fun _ _ d _ _ h => by cases d <;> exact h) (by kernel_rfl) rfl k3 ?_
    refine mix_take 0 _ ?_ rfl rfl rfl (some 8) rfl (fun w' hw' => ?hv0) ?_
    case hv0 =>
      go_simp
      with_reducible rfl
    simp only [Act.put, List.setIfInBounds_toArray, List.set_cons_zero, List.set_cons_succ]
    refine mix_take 1 _ ?_ rfl rfl rfl (some 9) rfl (fun w' hw' => ?hv1) ?_
    case hv1 =>
      have s0 := blk_cell (w := w') hw' 1 _ rfl
      go_simp
      with_reducible rfl
    simp only [Act.put, List.setIfInBounds_toArray, List.set_cons_zero, List.set_cons_succ]
    refine mix_take 3 _ ?_ rfl rfl rfl (some 11) rfl (fun w' hw' => ?hv3) ?_
    case hv3 =>
      go_simp
      with_reducible rfl
    simp only [Act.put, List.setIfInBounds_toArray, List.set_cons_zero, List.set_cons_succ]
    refine mix_take 4 _ ?_ rfl rfl rfl (some 12) rfl (fun w' hw' => ?hv4) ?_
    case hv4 =>
      have s0 := blk_cell (w := w') hw' 0 _ rfl
      go_simp
      with_reducible rfl
    simp only [Act.put, List.setIfInBounds_toArray, List.set_cons_zero, List.set_cons_succ]
    have hbd : Below w2.heap.size w2 w3.drew := hb3.trans ((Same.refl w3).drew _)
    have hzd : w3.drew.heap.size = w3.heap.size := rfl
    refine mix_call 2 _ rfl rfl rfl 62 #[.slice ac gc.length cc] (some 10) rfl ?hr2 ?_
    case hr2 => go_simp
    refine (gmTurned_any gc gr.length n HK2.out ac cc w.heap.size _ (rdss_chg HC2.out (chg_below hbd) hle (.inr rfl)) (by rw [hzd]; omega)).mono ?_
    rintro e w4 ⟨v1, rfl, hc1, hb4⟩
    have hb4' : Below w3.heap.size w3 w4 := ((Same.refl w3).drew _).trans hb4
    have hc1 : CellsV w4 w3.heap.size v1 (trL gc gr.length n) := hc1
    have hz4 := hb4'.size
    clear hzd
    refine ⟨_, rfl, hp_later k3 hb4', ?_⟩
    simp only [Act.put, List.setIfInBounds_toArray, List.set_cons_zero, List.set_cons_succ]
    refine mix_call 5 _ rfl rfl rfl 62 #[.slice ar gr.length cr] (some 13) rfl ?hr5 ?_
    case hr5 => go_simp
    refine (gmTurned_any gr gr.length n HK1.out ar cr w.heap.size _ (rdss_chg HR2.out (chg_below (bnext hb3 hb4')) hle (.inr rfl)) (by omega)).mono ?_
    rintro e w5 ⟨v2, rfl, hc2, hb5⟩
    have hz5 := hb5.size
    have hb5' := bnext hb4' hb5
    refine ⟨_, rfl, hp_later k3 hb5', ?_⟩
    simp only [Act.put, List.setIfInBounds_toArray, List.set_cons_zero, List.set_cons_succ]
    have o1 := oss_keep (oss_of hc1) (chg_below hb5) (Nat.le_refl _) (.inl (Nat.zero_le _))
    have o2 := oss_of hc2
    obtain ⟨a1, c1, rfl, -⟩ := oss_shape o1
    obtain ⟨a2, c2, rfl, -⟩ := oss_shape o2
    refine mix_take 6 _ (.agg #[.slice a1 (trL gc gr.length n).length c1, .slice a2 (trL gr gr.length n).length c2]) rfl rfl rfl (some 14) rfl (fun w' hw' => exec_build2 27 0 1 _ _ rfl (.slice a1 (trL gc gr.length n).length c1) (.slice a2 (trL gr gr.length n).length c2) rfl rfl _ (run_build_game _ _ _ _ _ _ w')) ?_
    simp only [Act.put, List.setIfInBounds_toArray, List.set_cons_zero, List.set_cons_succ]
    refine mix_put_blk blkG 7 _ rfl rfl rfl _ _ rfl none rfl (w.heap.size + 1) #[.slice a1 (trL gc gr.length n).length c1, .slice a2 (trL gr gr.length n).length c2] zgame rfl rfl (hp_later k2 hb5') rfl rfl (one2 _ _ _ _ _ _) (w.heap.size + 1) (Nat.le_refl _) (fun w6 hg6 hb6 hk6 hz6 => ⟨(hk6 _ (by omega : w.heap.size ≠ w.heap.size + 1)).trans (hp_later k3 hb5'), ?_⟩)
    simp only [Act.put]
    refine mix_take 8 _ ?_ rfl rfl rfl (some 3) rfl (fun w' hw' => ?hv8) ?_
    case hv8 =>
      go_simp
      with_reducible rfl
    simp only [Act.put, List.setIfInBounds_toArray, List.set_cons_zero, List.set_cons_succ]
    refine mix_done ?_
    have hch6 : Chg (w.heap.size + 1) (w.heap.size + 2) w5 w6 := ⟨hb6.os, hb6.tape, hb6.output, hb6.size, fun k _ hx => hk6 k (by omega)⟩
    have HF : Hid (OG w6 w.heap.size w6.heap.size (.slice a1 (trL gc gr.length n).length c1) (.slice a2 (trL gr gr.length n).length c2) (trL gc gr.length n) (trL gr gr.length n)) := Lib.hid (by
      have hz2 := HZ2.out
      exact ⟨w4.heap.size, by omega, by omega, oss_low (oss_keep o1 hch6 (by omega) (.inl (by omega))) (by omega), oss_high (oss_keep o2 hch6 (by omega) (.inl (by omega))) (by omega)⟩)
    have hBf : Below w.heap.size w w6 := (bnext (bnext hb hb3) hb5').trans (hb6.mono (by omega))
    clear hch6
    go_wp2_with fail
    exact bodyPost_ret (results_blk blkG rfl _ _ (w.heap.size + 1) _ (.bool true) rfl rfl hg6 rfl) rfl ⟨_, _, rfl, HF.out, hBf⟩
theorem trL_len (rs : List (List Int)) (m n : Nat) : (trL rs m n).length = n := gridL_len _ _ _
theorem gridL_rows (a b : Nat) (f : Nat → Nat → Int) (k : Nat) : ((gridL a b f).getD k []).length ≤ b := by
  by_cases h : k < a
  · rw [gridL_at _ _ _ _ h, rowL_len]; exact Nat.le_refl _
  · rw [List.getD_eq_getElem?_getD, List.getElem?_eq_none (by rw [gridL_len]; omega)]; simp
theorem sw_len (gr gc : List (List Int)) (rs : List (List Int)) : (if gameB gr gc then trL rs gr.length (gr.getD 0 []).length else []).length ≤ 100000 := by
  cases h : gameB gr gc
  · simp
  · rw [if_pos rfl, trL_len]
    have := (gameB_sizes h).1.n3
    omega
theorem sw_row (gr gc : List (List Int)) (rs : List (List Int)) (k : Nat) : ((if gameB gr gc then trL rs gr.length (gr.getD 0 []).length else []).getD k []).length ≤ 1000 := by
  cases h : gameB gr gc
  · simp
  · rw [if_pos rfl]
    have h1 := (gameB_sizes h).1.m3
    have h2 := gridL_rows (gr.getD 0 []).length gr.length (fun j i => (rs.getD i []).getD j 0) k
    unfold trL
    omega
theorem law_SwapPlayers (w : World) (gr : List (List Int)) (a_gr : Option Addr) (c_gr : Nat) (gc : List (List Int)) (a_gc : Option Addr) (c_gc : Nat) (h_gr : RdSS w w.heap.size a_gr gr) (h_gc : RdSS w w.heap.size a_gc gc) :
    Calls Try.prog 10 #[.agg #[.slice a_gr gr.length c_gr, .slice a_gc gc.length c_gc]] w fun e w' => e = .returned (.bool true) ∧ Below w.heap.size w w' := by
  exact lawOf_SwapPlayers gr a_gr c_gr gc a_gc c_gc w h_gr h_gc _ (sw_len gr gc gc) (sw_row gr gc gc) _ (sw_len gr gc gr) (sw_row gr gc gr) _ (fun a c a' c' w' _ _ h h' => specSwapPlayers gr gc a a' c c' w' h h') (fun a c a' c' w' _ _ h h' => implSwapPlayers gr gc a a' c c' w' h h')
end Go.Proofs.Ytlkgmnmnlfaopaa
