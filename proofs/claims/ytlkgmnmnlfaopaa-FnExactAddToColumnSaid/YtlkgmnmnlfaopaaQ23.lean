import Derived.LoopN
import Derived.BigRegion
import Derived.BigQuiet
import Derived.RegionTactic
import Derived.Test.YtlkgmnmnlfaopaaVSwapPlayers
import Derived.Test.YtlkgmnmnlfaopaaQ17
namespace Go.Proofs.Ytlkgmnmnlfaopaa
open Go.RowKit
set_option maxRecDepth 4000
theorem oss_nil' (w : World) (lo hi : Nat) : OSS w lo hi (.slice none 0 0) [] := ⟨[], World.ownsRow_nil _ _ _ _, fun k hk => by simp at hk, fun i j _ hj => by simp at hj, fun k hk => by simp [Value.ownBlock] at hk, fun i hi => by simp at hi⟩
theorem og_nil (w : World) (lo hi : Nat) (h : lo ≤ hi) : OG w lo hi (.slice none 0 0) (.slice none 0 0) [] [] := ⟨lo, Nat.le_refl _, h, oss_nil' _ _ _, oss_nil' _ _ _⟩
set_option maxHeartbeats 800000 in
theorem implSwapPlayers (gr gc : List (List Int)) (ar ac : Option Addr) (cr cc : Nat) (w : World) (hr : RdSS w w.heap.size ar gr) (hc : RdSS w w.heap.size ac gc) :
    Calls Try.prog 41 #[.agg #[.slice ar gr.length cr, .slice ac gc.length cc]] w (OutSwapPlayers w (if gameB gr gc then trL gc gr.length (gr.getD 0 []).length else []) (if gameB gr gc then trL gr gr.length (gr.getD 0 []).length else []) (gameB gr gc)) := by
  obtain ⟨w1, hw1⟩ : ∃ w1, w1 = (w.alloc (.cells #[.slice ar gr.length cr, .slice ac gc.length cc] 27)) := ⟨_, rfl⟩
  obtain ⟨w2, hw2⟩ : ∃ w2, w2 = (w1.alloc (.cells zgame 27)) := ⟨_, rfl⟩
  have hb1 : Below w.heap.size w w1 := by rw [hw1]; exact balloc (Below.refl w.heap.size w) _
  have hb2 : Below w1.heap.size w1 w2 := by rw [hw2]; exact balloc (Below.refl w1.heap.size w1) _
  have hz1 : w1.heap.size = w.heap.size + 1 := by rw [hw1]; simp
  have hz2 : w2.heap.size = w.heap.size + 2 := by rw [hw2, World.size_alloc, hz1]
  have g1 : w1.heap[w.heap.size]? = some (.cells #[.slice ar gr.length cr, .slice ac gc.length cc] 27 (0, 0)) := by rw [hw1]; exact heap_alloc_new w _
  have g1 := hp_later g1 hb2
  have g2 : w2.heap[w.heap.size + 1]? = some (.cells zgame 27 (0, 0)) := by rw [hw2, ← hz1]; exact heap_alloc_new w1 _
  have hb := bnext hb1 hb2
  have hr2 := rdss_chg hr (chg_below hb) (Nat.le_refl _) (.inr rfl)
  have hc2 := rdss_chg hc (chg_below hb) (Nat.le_refl _) (.inr rfl)
  have HG := Lib.hid (isGame_any gr gc ar ac cr cc w.heap.size w2 hr2 hc2 (by omega))
  have HW1 := Lib.hid hw1
  have HW2 := Lib.hid hw2
  have HZ2 := Lib.hid hz2
  have c0 := blk_cell g1 0 _ rfl
  have c1 := blk_cell g1 1 _ rfl
  cases eg : gameB gr gc
  · rw [eg] at HG
    clear hw1 hw2 hr hc hb1 hb2 hz1 hz2 hr2 hc2 eg
    go_enter Try.func41, Try.ntmps41
    go_wp2_with ((with_reducible refine alloc_blk zgame run_alloc_game rfl rfl ?_); simp only [World.size_alloc, Act.put, List.setIfInBounds_toArray, List.set_cons_zero, List.set_cons_succ])
    rw [← HW1.out, ← HW2.out]
    refine HG.out.mono ?_
    rintro e w3 ⟨rfl, hb3⟩
    have k2 := hp_later g2 hb3
    go_wp2_with (first | (with_reducible refine build0_blk zgame run_build0_game rfl rfl ?_) | ((with_reducible refine store_blk blkG rfl _ _ rfl (w.heap.size + 1) (zgame) (zgame) ?_ ?_ k2 (rfl) (rfl) (zgame_one) (w.heap.size) (by omega) ?_); exact rfl; exact rfl; intro w5 hg5 hb5 hk5 hz5))
    exact bodyPost_ret (results_blk blkG rfl _ _ (w.heap.size + 1) _ (.bool false) rfl rfl hg5 rfl) rfl ⟨_, _, rfl, og_nil _ _ _ ((bnext hb hb3).trans hb5).size, (bnext hb hb3).trans hb5⟩
  · rw [eg] at HG
    obtain ⟨k1, k2⟩ := gameB_sizes eg
    have HS := Lib.hid (fun w' (hb : Below w2.heap.size w2 w') => swapped_any gr gc _ _ k1 k2 ar ac cr cc w.heap.size w' (rdss_chg hr2 (chg_below hb) (by omega) (.inr rfl)) (rdss_chg hc2 (chg_below hb) (by omega) (.inr rfl)) (by have := hb.size; omega))
    clear hw1 hw2 hr hc hb1 hb2 hz1 hz2 hr2 hc2 eg k1 k2
    rw [if_pos rfl, if_pos rfl]
    generalize trL gr gr.length (gr.getD 0 []).length = T1 at *
    generalize trL gc gr.length (gr.getD 0 []).length = T2 at *
    go_enter Try.func41, Try.ntmps41
    go_wp2_with ((with_reducible refine alloc_blk zgame run_alloc_game rfl rfl ?_); simp only [World.size_alloc, Act.put, List.setIfInBounds_toArray, List.set_cons_zero, List.set_cons_succ])
    rw [← HW1.out, ← HW2.out]
    refine HG.out.mono ?_
    rintro e w3 ⟨rfl, hb3⟩
    have d0 := blk_cell (hp_later g1 hb3) 0 _ rfl
    have d1 := blk_cell (hp_later g1 hb3) 1 _ rfl
    have k2 := hp_later g2 hb3
    have hz3 := hb3.size
    go_wp2_with fail
    refine (HS.out _ hb3).mono ?_
    rintro e w4 ⟨v1, v2, rfl, og, hb4⟩
    obtain ⟨a1, c1, a2, c2, rfl, rfl, -, -⟩ := og_shape og
    have k4 := hp_later k2 hb4
    have hz4 := hb4.size
    go_wp2_with ((with_reducible refine store_blk blkG rfl _ _ rfl (w.heap.size + 1) (#[.slice a1 T2.length c1, .slice a2 T1.length c2]) (zgame) ?_ ?_ k4 (rfl) (rfl) ((one2 _ _ _ _ _ _)) (w.heap.size) (by omega) ?_); exact rfl; exact rfl; intro w5 hg5 hb5 hk5 hz5)
    have hz2 := HZ2.out
    have hch5 : Chg (w.heap.size + 1) (w.heap.size + 2) w4 w5 := ⟨hb5.os, hb5.tape, hb5.output, hb5.size, fun k _ hx => hk5 k (by omega)⟩
    exact bodyPost_ret (results_blk blkG rfl _ _ (w.heap.size + 1) _ (.bool true) rfl rfl hg5 rfl) rfl ⟨_, _, rfl, og_high (og_low (og_keep og hch5 (Nat.le_refl _) (.inl (by omega))) (by omega)) (by omega), (bnext (bnext hb hb3) hb4).trans hb5⟩
end Go.Proofs.Ytlkgmnmnlfaopaa
