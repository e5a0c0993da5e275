import Derived.LoopN
import Derived.BigRegion
import Derived.BigQuiet
import Derived.RegionTactic
import Derived.Test.YtlkgmnmnlfaopaaVAddToColumn
import Derived.Test.YtlkgmnmnlfaopaaQ28
import Derived.Test.YtlkgmnmnlfaopaaQx
namespace Go.Proofs.Ytlkgmnmnlfaopaa
open Go.RowKit
set_option maxRecDepth 4000
def addV (j : Int) (k : Int) (c : Nat) (x : Int) : Int := if (c : Int) = j then x + k else x
def atL (gr : List (List Int)) (j k : Int) : List (List Int) := gridL gr.length (gr.getD 0 []).length (fun i c => addV j k c ((gr.getD i []).getD c 0))
def atA (gr gc : List (List Int)) (j k : Int) : Bool := gameB gr gc && decide (0 ≤ j ∧ j < ((gr.getD 0 []).length : Int)) && decide (-20 ≤ k ∧ k ≤ 20)
def atB (gr gc : List (List Int)) (j k : Int) : Bool := atA gr gc j k && gB (atL gr j k)
set_option maxHeartbeats 800000 in
theorem add1_any (j k : Int) (c : Nat) (x : Int) (hx : -9 ≤ x ∧ x ≤ 9) (hk : -20 ≤ k ∧ k ≤ 20) (gj gk : Nat) (w : World) (hj : w.cell? ⟨gj, 0, none⟩ = some (.int .i64 j)) (hkk : w.cell? ⟨gk, 0, none⟩ = some (.int .i64 k)) :
    Calls Try.prog 80 #[.int .i64 c, .int .i64 x, .pointer (some ⟨gj, 0, none⟩), .pointer (some ⟨gk, 0, none⟩)] w fun e w' => e = .returned (.int .i64 (addV j k c x)) ∧ Below w.heap.size w w' := by
  have e1 : wrap64 (x + k) = x + k := IntWalk.wrap64_in _ ⟨by omega, by omega⟩
  have e3 : IntKind.i64.wrap (x + k) = x + k := IntWalk.i64_in _ ⟨by omega, by omega⟩
  by_cases h : (c : Int) = j
  · have hb : ((c : Int) == j) = true := by simp [h]
    have HE : Hid (addV j k c x = x + k) := Lib.hid (by simp [addV, h])
    rw [HE.out]
    clear h
    go_enter Try.func80, Try.ntmps80
    go_wp2_with fail
    go_ret
    exact ⟨rfl, Below.refl _ _⟩
  · have hb : ((c : Int) == j) = false := by simp [h]
    have HE : Hid (addV j k c x = x) := Lib.hid (by simp [addV, h])
    rw [HE.out]
    clear h
    go_enter Try.func80, Try.ntmps80
    go_wp2_with fail
    go_ret
    exact ⟨rfl, Below.refl _ _⟩
set_option maxHeartbeats 6400000 in
theorem implAddToColumn (gr gc : List (List Int)) (j k : Int) (ar ac : Option Addr) (cr cc : Nat) (w : World) (hr : RdSS w w.heap.size ar gr) (hc : RdSS w w.heap.size ac gc) :
    Calls Try.prog 44 #[.agg #[.slice ar gr.length cr, .slice ac gc.length cc], .int .i64 j, .int .i64 k] w (OutAddToColumn w (if atB gr gc j k then atL gr j k else []) (if atB gr gc j k then gc else []) (atB gr gc j k)) := by
  obtain ⟨w1, hw1⟩ : ∃ w1, w1 = (w.alloc (.cells #[.slice ar gr.length cr, .slice ac gc.length cc] 27)) := ⟨_, rfl⟩
  obtain ⟨w2, hw2⟩ : ∃ w2, w2 = (w1.alloc (.cells #[.int .i64 j] 3)) := ⟨_, rfl⟩
  obtain ⟨w3, hw3⟩ : ∃ w3, w3 = (w2.alloc (.cells #[.int .i64 k] 3)) := ⟨_, rfl⟩
  obtain ⟨w4, hw4⟩ : ∃ w4, w4 = (w3.alloc (.cells zgame 27)) := ⟨_, rfl⟩
  have hb1 : Below w.heap.size w w1 := by rw [hw1]; exact balloc (Below.refl w.heap.size w) _
  have hb2 : Below w1.heap.size w1 w2 := by rw [hw2]; exact balloc (Below.refl w1.heap.size w1) _
  have hb3 : Below w2.heap.size w2 w3 := by rw [hw3]; exact balloc (Below.refl w2.heap.size w2) _
  have hb4 : Below w3.heap.size w3 w4 := by rw [hw4]; exact balloc (Below.refl w3.heap.size w3) _
  have hz1 : w1.heap.size = w.heap.size + 1 := by rw [hw1]; simp
  have hz2 : w2.heap.size = w.heap.size + 2 := by rw [hw2, World.size_alloc, hz1]
  have hz3 : w3.heap.size = w.heap.size + 3 := by rw [hw3, World.size_alloc, hz2]
  have hz4 : w4.heap.size = w.heap.size + 4 := by rw [hw4, World.size_alloc, hz3]
  have g1 : w1.heap[w.heap.size]? = some (.cells #[.slice ar gr.length cr, .slice ac gc.length cc] 27 (0, 0)) := by rw [hw1]; exact heap_alloc_new w _
  have g1 := hp_later (hp_later (hp_later g1 hb2) hb3) hb4
  have g2 : w2.heap[w.heap.size + 1]? = some (.cells #[.int .i64 j] 3 (0, 0)) := by rw [hw2, ← hz1]; exact heap_alloc_new w1 _
  have g2 := hp_later (hp_later g2 hb3) hb4
  have g3 : w3.heap[w.heap.size + 1 + 1]? = some (.cells #[.int .i64 k] 3 (0, 0)) := by rw [hw3, show w.heap.size + 1 + 1 = w2.heap.size by omega]; exact heap_alloc_new w2 _
  have g3 := hp_later g3 hb4
  have g4 : w4.heap[w.heap.size + 1 + 1 + 1]? = some (.cells zgame 27 (0, 0)) := by rw [hw4, show w.heap.size + 1 + 1 + 1 = w3.heap.size by omega]; exact heap_alloc_new w3 _
  have hb := bnext (bnext (bnext hb1 hb2) hb3) hb4
  have hle : w.heap.size ≤ w4.heap.size := hb.size
  have hr4 := rdss_chg hr (chg_below hb) (Nat.le_refl _) (.inr rfl)
  have hc4 := rdss_chg hc (chg_below hb) (Nat.le_refl _) (.inr rfl)
  have HG := Lib.hid (fun w' (hb : Below w4.heap.size w4 w') => isGame_any gr gc ar ac cr cc w.heap.size w' (rdss_chg hr4 (chg_below hb) hle (.inr rfl)) (rdss_chg hc4 (chg_below hb) hle (.inr rfl)) (by have := hb.size; omega))
  have HK := Lib.hid (fun w' (hb : Below w4.heap.size w4 w') => (⟨hp_later g1 hb, blk_cell (hp_later g2 hb) 0 _ rfl, blk_cell (hp_later g3 hb) 0 _ rfl⟩ :
    w'.heap[w.heap.size]? = some (.cells #[.slice ar gr.length cr, .slice ac gc.length cc] 27 (0, 0)) ∧ w'.cell? ⟨w.heap.size + 1, 0, none⟩ = some (.int .i64 j) ∧ w'.cell? ⟨w.heap.size + 1 + 1, 0, none⟩ = some (.int .i64 k)))
  have HW1 := Lib.hid hw1
  have HW2 := Lib.hid hw2
  have HW3 := Lib.hid hw3
  have HW4 := Lib.hid hw4
  have HZ4 := Lib.hid hz4
  cases eg : gameB gr gc
  · rw [eg] at HG
    have HF : Hid (atB gr gc j k = false) := Lib.hid (by simp only [atB, atA, eg, Bool.false_and])
    rw [HF.out]
    clear hr4 hc4 eg
    clear hw1 hw2 hw3 hw4 hz1 hz2 hz3 hz4 hb1 hb2 hb3 hb4 hr hc g1 g2 g3
    go_enter Try.func44, Try.ntmps44
    go_wp2_with ((with_reducible refine alloc_blk zgame run_alloc_game rfl rfl ?_); simp only [World.size_alloc, Act.put, List.setIfInBounds_toArray, List.set_cons_zero, List.set_cons_succ])
    rw [← HW1.out, ← HW2.out, ← HW3.out, ← HW4.out]
    refine wp_region_mix (fun w' => Below w4.heap.size w4 w') [1, 10] [0, 1, 2, 3, 4, 5, 6, 7, 8, 9, 10, 11, 12, 13, 14, 15, 16, 17, 18, 19, 20] (by kernel_rfl) (by kernel_rfl) (fun _ _ d _ _ h => by cases d <;> exact h) (by kernel_rfl) rfl ((Same.refl w4).drew _) ?_
    have hbd : Below w4.heap.size w4 w4.drew := (Same.refl w4).drew _
    refine mix_take 0 _ (.agg #[.slice ar gr.length cr, .slice ac gc.length cc]) rfl rfl rfl (some 9) rfl (fun w' hw' => exec_row _ _ rfl (w.heap.size) rfl #[.slice ar gr.length cr, .slice ac gc.length cc] (blk_load blkG w' _ _ (HK.out w' hw').1 rfl)) ?_
    simp only [Act.put, List.setIfInBounds_toArray, List.set_cons_zero, List.set_cons_succ]
    refine mix_call 1 _ rfl rfl rfl 18 #[.agg #[.slice ar gr.length cr, .slice ac gc.length cc]] (some 10) rfl ?hr1 ?_
    case hr1 => go_simp
    refine (HG.out _ hbd).mono ?_
    rintro e w5 ⟨rfl, hb5⟩
    have hb5' : Below w4.heap.size w4 w5 := bnext hbd hb5
    refine ⟨_, rfl, hb5', ?_⟩
    simp only [Act.put, List.setIfInBounds_toArray, List.set_cons_zero, List.set_cons_succ]
    refine mix_take 2 _ ?_ rfl rfl rfl (some 11) rfl (fun w' hw' => ?hv2) ?_
    case hv2 =>
      go_simp
      with_reducible rfl
    simp only [Act.put, List.setIfInBounds_toArray, List.set_cons_zero, List.set_cons_succ]
    refine mix_take 3 _ ?_ rfl rfl rfl (some 12) rfl (fun w' hw' => ?hv3) ?_
    case hv3 =>
      go_simp
      with_reducible rfl
    simp only [Act.put, List.setIfInBounds_toArray, List.set_cons_zero, List.set_cons_succ]
    refine mix_skip 4 _ rfl rfl rfl (some 13) rfl ?_
    simp only [Act.put, List.setIfInBounds_toArray, List.set_cons_zero, List.set_cons_succ]
    refine mix_skip 5 _ rfl rfl rfl (some 14) rfl ?_
    simp only [Act.put, List.setIfInBounds_toArray, List.set_cons_zero, List.set_cons_succ]
    refine mix_take 6 _ ?_ rfl rfl rfl (some 15) rfl (fun w' hw' => ?hv6) ?_
    case hv6 =>
      go_simp
      with_reducible rfl
    simp only [Act.put, List.setIfInBounds_toArray, List.set_cons_zero, List.set_cons_succ]
    refine mix_take 7 _ ?_ rfl rfl rfl (some 16) rfl (fun w' hw' => ?hv7) ?_
    case hv7 =>
      go_simp
      with_reducible rfl
    simp only [Act.put, List.setIfInBounds_toArray, List.set_cons_zero, List.set_cons_succ]
    refine mix_skip 8 _ rfl rfl rfl (some 17) rfl ?_
    simp only [Act.put, List.setIfInBounds_toArray, List.set_cons_zero, List.set_cons_succ]
    refine mix_skip 9 _ rfl rfl rfl (some 18) rfl ?_
    simp only [Act.put, List.setIfInBounds_toArray, List.set_cons_zero, List.set_cons_succ]
    refine mix_skips 10 _ rfl rfl rfl (some 19) rfl hb5' ?_
    simp only [Act.put, List.setIfInBounds_toArray, List.set_cons_zero, List.set_cons_succ]
    refine mix_skip 11 _ rfl rfl rfl (some 20) rfl ?_
    simp only [Act.put, List.setIfInBounds_toArray, List.set_cons_zero, List.set_cons_succ]
    refine mix_take 12 _ ?_ rfl rfl rfl (some 21) rfl (fun w' hw' => ?hv12) ?_
    case hv12 =>
      go_simp
      with_reducible rfl
    simp only [Act.put, List.setIfInBounds_toArray, List.set_cons_zero, List.set_cons_succ]
    refine mix_take 13 _ ?_ rfl rfl rfl (some 22) rfl (fun w' hw' => ?hv13) ?_
    case hv13 =>
      go_simp
      with_reducible rfl
    simp only [Act.put, List.setIfInBounds_toArray, List.set_cons_zero, List.set_cons_succ]
    refine mix_skip 14 _ rfl rfl rfl (some 23) rfl ?_
    simp only [Act.put, List.setIfInBounds_toArray, List.set_cons_zero, List.set_cons_succ]
    refine mix_skip 15 _ rfl rfl rfl (some 24) rfl ?_
    simp only [Act.put, List.setIfInBounds_toArray, List.set_cons_zero, List.set_cons_succ]
    refine mix_take 16 _ ?_ rfl rfl rfl (some 25) rfl (fun w' hw' => ?hv16) ?_
    case hv16 =>
      go_simp
      with_reducible rfl
    simp only [Act.put, List.setIfInBounds_toArray, List.set_cons_zero, List.set_cons_succ]
    refine mix_take 17 _ ?_ rfl rfl rfl (some 26) rfl (fun w' hw' => ?hv17) ?_
    case hv17 =>
      go_simp
      with_reducible rfl
    simp only [Act.put, List.setIfInBounds_toArray, List.set_cons_zero, List.set_cons_succ]
    refine mix_skip 18 _ rfl rfl rfl (some 27) rfl ?_
    simp only [Act.put, List.setIfInBounds_toArray, List.set_cons_zero, List.set_cons_succ]
    refine mix_skip 19 _ rfl rfl rfl (some 28) rfl ?_
    simp only [Act.put, List.setIfInBounds_toArray, List.set_cons_zero, List.set_cons_succ]
    refine mix_take 20 _ ?_ rfl rfl rfl (some 29) rfl (fun w' hw' => ?hv20) ?_
    case hv20 =>
      go_simp
      with_reducible rfl
    simp only [Act.put, List.setIfInBounds_toArray, List.set_cons_zero, List.set_cons_succ]
    refine mix_done ?_
    have k4 := hp_later g4 hb5'
    go_wp2_with (first | (with_reducible refine build0_blk zgame run_build0_game rfl rfl ?_) | ((with_reducible refine store_blk blkG rfl _ _ rfl (w.heap.size + 1 + 1 + 1) (zgame) (zgame) ?_ ?_ k4 (rfl) (rfl) (zgame_one) (w.heap.size) (by omega) ?_); exact rfl; exact rfl; intro w8 hg8 hb8 hk8 hz8))
    exact bodyPost_ret (results_blk blkG rfl _ _ (w.heap.size + 1 + 1 + 1) _ (.bool false) rfl rfl hg8 rfl) rfl ⟨_, _, rfl, og_nil _ _ _ ((bnext hb hb5').trans hb8).size, (bnext hb hb5').trans hb8⟩
  · rw [eg] at HG
    obtain ⟨k1, k2⟩ := gameB_sizes eg
    obtain ⟨n, hn⟩ : ∃ n, n = (gr.getD 0 []).length := ⟨_, rfl⟩
    have hAT : ∀ b : Bool, decide (0 ≤ j ∧ j < ((gr.getD 0 []).length : Int)) = b → atA gr gc j k = (b && decide (-20 ≤ k ∧ k ≤ 20)) := fun b hb => by simp only [atA, eg, hb, Bool.true_and]
    rw [← hn] at k1 k2 hAT
    have hm1 := k1.m1
    have hn1 := k1.n1
    have HCC := Lib.hid (fun w' (hb : Below w4.heap.size w4 w') => show Calls Try.prog 76 #[.agg #[.slice ar gr.length cr, .slice ac gc.length cc]] w' fun e w'' => e = .returned (.int .i64 n) ∧ Below w'.heap.size w' w'' from by
      rw [hn]
      exact columnCount_any gr ar cr w.heap.size (.slice ac gc.length cc) w' (rdss_chg hr4 (chg_below hb) hle (.inr rfl)) (by omega) (by have := hb.size; omega))
    by_cases h1 : j < 0
    · have d1 : decide (j < 0) = true := by simpa using h1
      have HF : Hid (atB gr gc j k = false) := Lib.hid (by rw [atB, hAT false (by simp; omega)]; rfl)
      rw [HF.out]
      clear hr4 hc4 eg k1 k2 hn hAT h1
      clear hw1 hw2 hw3 hw4 hz1 hz2 hz3 hz4 hb1 hb2 hb3 hb4 hr hc g1 g2 g3
      go_enter Try.func44, Try.ntmps44
      go_wp2_with ((with_reducible refine alloc_blk zgame run_alloc_game rfl rfl ?_); simp only [World.size_alloc, Act.put, List.setIfInBounds_toArray, List.set_cons_zero, List.set_cons_succ])
      rw [← HW1.out, ← HW2.out, ← HW3.out, ← HW4.out]
      refine wp_region_mix (fun w' => Below w4.heap.size w4 w') [1, 10] [0, 1, 2, 3, 4, 5, 6, 7, 8, 9, 10, 11, 12, 13, 14, 15, 16, 17, 18, 19, 20] (by kernel_rfl) (by kernel_rfl) (fun _ _ d _ _ h => by cases d <;> exact h) (by kernel_rfl) rfl ((Same.refl w4).drew _) ?_
      have hbd : Below w4.heap.size w4 w4.drew := (Same.refl w4).drew _
      refine mix_take 0 _ (.agg #[.slice ar gr.length cr, .slice ac gc.length cc]) rfl rfl rfl (some 9) rfl (fun w' hw' => exec_row _ _ rfl (w.heap.size) rfl #[.slice ar gr.length cr, .slice ac gc.length cc] (blk_load blkG w' _ _ (HK.out w' hw').1 rfl)) ?_
      simp only [Act.put, List.setIfInBounds_toArray, List.set_cons_zero, List.set_cons_succ]
      refine mix_call 1 _ rfl rfl rfl 18 #[.agg #[.slice ar gr.length cr, .slice ac gc.length cc]] (some 10) rfl ?hr1 ?_
      case hr1 => go_simp
      refine (HG.out _ hbd).mono ?_
      rintro e w5 ⟨rfl, hb5⟩
      have hb5' : Below w4.heap.size w4 w5 := bnext hbd hb5
      refine ⟨_, rfl, hb5', ?_⟩
      simp only [Act.put, List.setIfInBounds_toArray, List.set_cons_zero, List.set_cons_succ]
      refine mix_take 2 _ ?_ rfl rfl rfl (some 11) rfl (fun w' hw' => ?hv2) ?_
      case hv2 =>
        go_simp
        with_reducible rfl
      simp only [Act.put, List.setIfInBounds_toArray, List.set_cons_zero, List.set_cons_succ]
      refine mix_take 3 _ ?_ rfl rfl rfl (some 12) rfl (fun w' hw' => ?hv3) ?_
      case hv3 =>
        go_simp
        with_reducible rfl
      simp only [Act.put, List.setIfInBounds_toArray, List.set_cons_zero, List.set_cons_succ]
      refine mix_take 4 _ ?_ rfl rfl rfl (some 13) rfl (fun w' hw' => ?hv4) ?_
      case hv4 =>
        have s0 := (HK.out w' hw').2.1
        go_simp
        with_reducible rfl
      simp only [Act.put, List.setIfInBounds_toArray, List.set_cons_zero, List.set_cons_succ]
      refine mix_take 5 _ ?_ rfl rfl rfl (some 14) rfl (fun w' hw' => ?hv5) ?_
      case hv5 =>
        go_simp
        with_reducible rfl
      simp only [Act.put, List.setIfInBounds_toArray, List.set_cons_zero, List.set_cons_succ]
      refine mix_take 6 _ ?_ rfl rfl rfl (some 15) rfl (fun w' hw' => ?hv6) ?_
      case hv6 =>
        go_simp
        with_reducible rfl
      simp only [Act.put, List.setIfInBounds_toArray, List.set_cons_zero, List.set_cons_succ]
      refine mix_take 7 _ ?_ rfl rfl rfl (some 16) rfl (fun w' hw' => ?hv7) ?_
      case hv7 =>
        go_simp
        with_reducible rfl
      simp only [Act.put, List.setIfInBounds_toArray, List.set_cons_zero, List.set_cons_succ]
      refine mix_skip 8 _ rfl rfl rfl (some 17) rfl ?_
      simp only [Act.put, List.setIfInBounds_toArray, List.set_cons_zero, List.set_cons_succ]
      refine mix_skip 9 _ rfl rfl rfl (some 18) rfl ?_
      simp only [Act.put, List.setIfInBounds_toArray, List.set_cons_zero, List.set_cons_succ]
      refine mix_skips 10 _ rfl rfl rfl (some 19) rfl hb5' ?_
      simp only [Act.put, List.setIfInBounds_toArray, List.set_cons_zero, List.set_cons_succ]
      refine mix_skip 11 _ rfl rfl rfl (some 20) rfl ?_
      simp only [Act.put, List.setIfInBounds_toArray, List.set_cons_zero, List.set_cons_succ]
      refine mix_take 12 _ ?_ rfl rfl rfl (some 21) rfl (fun w' hw' => ?hv12) ?_
      case hv12 =>
        go_simp
        with_reducible rfl
      simp only [Act.put, List.setIfInBounds_toArray, List.set_cons_zero, List.set_cons_succ]
      refine mix_take 13 _ ?_ rfl rfl rfl (some 22) rfl (fun w' hw' => ?hv13) ?_
      case hv13 =>
        go_simp
        with_reducible rfl
      simp only [Act.put, List.setIfInBounds_toArray, List.set_cons_zero, List.set_cons_succ]
      refine mix_skip 14 _ rfl rfl rfl (some 23) rfl ?_
      simp only [Act.put, List.setIfInBounds_toArray, List.set_cons_zero, List.set_cons_succ]
      refine mix_skip 15 _ rfl rfl rfl (some 24) rfl ?_
      simp only [Act.put, List.setIfInBounds_toArray, List.set_cons_zero, List.set_cons_succ]
      refine mix_take 16 _ ?_ rfl rfl rfl (some 25) rfl (fun w' hw' => ?hv16) ?_
      case hv16 =>
        go_simp
        with_reducible rfl
      simp only [Act.put, List.setIfInBounds_toArray, List.set_cons_zero, List.set_cons_succ]
      refine mix_take 17 _ ?_ rfl rfl rfl (some 26) rfl (fun w' hw' => ?hv17) ?_
      case hv17 =>
        go_simp
        with_reducible rfl
      simp only [Act.put, List.setIfInBounds_toArray, List.set_cons_zero, List.set_cons_succ]
      refine mix_skip 18 _ rfl rfl rfl (some 27) rfl ?_
      simp only [Act.put, List.setIfInBounds_toArray, List.set_cons_zero, List.set_cons_succ]
      refine mix_skip 19 _ rfl rfl rfl (some 28) rfl ?_
      simp only [Act.put, List.setIfInBounds_toArray, List.set_cons_zero, List.set_cons_succ]
      refine mix_take 20 _ ?_ rfl rfl rfl (some 29) rfl (fun w' hw' => ?hv20) ?_
      case hv20 =>
        go_simp
        with_reducible rfl
      simp only [Act.put, List.setIfInBounds_toArray, List.set_cons_zero, List.set_cons_succ]
      refine mix_done ?_
      have k4 := hp_later g4 hb5'
      go_wp2_with (first | (with_reducible refine build0_blk zgame run_build0_game rfl rfl ?_) | ((with_reducible refine store_blk blkG rfl _ _ rfl (w.heap.size + 1 + 1 + 1) (zgame) (zgame) ?_ ?_ k4 (rfl) (rfl) (zgame_one) (w.heap.size) (by omega) ?_); exact rfl; exact rfl; intro w8 hg8 hb8 hk8 hz8))
      exact bodyPost_ret (results_blk blkG rfl _ _ (w.heap.size + 1 + 1 + 1) _ (.bool false) rfl rfl hg8 rfl) rfl ⟨_, _, rfl, og_nil _ _ _ ((bnext hb hb5').trans hb8).size, (bnext hb hb5').trans hb8⟩
    · have d1 : decide (j < 0) = false := by simpa using h1
      by_cases h2 : (n : Int) ≤ j
      · have d2 : decide ((n : Int) ≤ j) = true := by simpa using h2
        have HF : Hid (atB gr gc j k = false) := Lib.hid (by rw [atB, hAT false (by simp; omega)]; rfl)
        rw [HF.out]
        clear hr4 hc4 eg k1 k2 hn hAT h1 h2
        clear hw1 hw2 hw3 hw4 hz1 hz2 hz3 hz4 hb1 hb2 hb3 hb4 hr hc g1 g2 g3
        go_enter Try.func44, Try.ntmps44
        go_wp2_with ((with_reducible refine alloc_blk zgame run_alloc_game rfl rfl ?_); simp only [World.size_alloc, Act.put, List.setIfInBounds_toArray, List.set_cons_zero, List.set_cons_succ])
        rw [← HW1.out, ← HW2.out, ← HW3.out, ← HW4.out]
        refine wp_region_mix (fun w' => Below w4.heap.size w4 w') [1, 10] [0, 1, 2, 3, 4, 5, 6, 7, 8, 9, 10, 11, 12, 13, 14, 15, 16, 17, 18, 19, 20] (by kernel_rfl) (by kernel_rfl) (fun _ _ d _ _ h => by cases d <;> exact h) (by kernel_rfl) rfl ((Same.refl w4).drew _) ?_
        have hbd : Below w4.heap.size w4 w4.drew := (Same.refl w4).drew _
        refine mix_take 0 _ (.agg #[.slice ar gr.length cr, .slice ac gc.length cc]) rfl rfl rfl (some 9) rfl (fun w' hw' => exec_row _ _ rfl (w.heap.size) rfl #[.slice ar gr.length cr, .slice ac gc.length cc] (blk_load blkG w' _ _ (HK.out w' hw').1 rfl)) ?_
        simp only [Act.put, List.setIfInBounds_toArray, List.set_cons_zero, List.set_cons_succ]
        refine mix_call 1 _ rfl rfl rfl 18 #[.agg #[.slice ar gr.length cr, .slice ac gc.length cc]] (some 10) rfl ?hr1 ?_
        case hr1 => go_simp
        refine (HG.out _ hbd).mono ?_
        rintro e w5 ⟨rfl, hb5⟩
        have hb5' : Below w4.heap.size w4 w5 := bnext hbd hb5
        refine ⟨_, rfl, hb5', ?_⟩
        simp only [Act.put, List.setIfInBounds_toArray, List.set_cons_zero, List.set_cons_succ]
        refine mix_take 2 _ ?_ rfl rfl rfl (some 11) rfl (fun w' hw' => ?hv2) ?_
        case hv2 =>
          go_simp
          with_reducible rfl
        simp only [Act.put, List.setIfInBounds_toArray, List.set_cons_zero, List.set_cons_succ]
        refine mix_take 3 _ ?_ rfl rfl rfl (some 12) rfl (fun w' hw' => ?hv3) ?_
        case hv3 =>
          go_simp
          with_reducible rfl
        simp only [Act.put, List.setIfInBounds_toArray, List.set_cons_zero, List.set_cons_succ]
        refine mix_take 4 _ ?_ rfl rfl rfl (some 13) rfl (fun w' hw' => ?hv4) ?_
        case hv4 =>
          have s0 := (HK.out w' hw').2.1
          go_simp
          with_reducible rfl
        simp only [Act.put, List.setIfInBounds_toArray, List.set_cons_zero, List.set_cons_succ]
        refine mix_take 5 _ ?_ rfl rfl rfl (some 14) rfl (fun w' hw' => ?hv5) ?_
        case hv5 =>
          go_simp
          with_reducible rfl
        simp only [Act.put, List.setIfInBounds_toArray, List.set_cons_zero, List.set_cons_succ]
        refine mix_take 6 _ ?_ rfl rfl rfl (some 15) rfl (fun w' hw' => ?hv6) ?_
        case hv6 =>
          go_simp
          with_reducible rfl
        simp only [Act.put, List.setIfInBounds_toArray, List.set_cons_zero, List.set_cons_succ]
        refine mix_take 7 _ ?_ rfl rfl rfl (some 16) rfl (fun w' hw' => ?hv7) ?_
        case hv7 =>
          go_simp
          with_reducible rfl
        simp only [Act.put, List.setIfInBounds_toArray, List.set_cons_zero, List.set_cons_succ]
        refine mix_take 8 _ ?_ rfl rfl rfl (some 17) rfl (fun w' hw' => ?hv8) ?_
        case hv8 =>
          have s0 := (HK.out w' hw').2.1
          go_simp
          with_reducible rfl
        simp only [Act.put, List.setIfInBounds_toArray, List.set_cons_zero, List.set_cons_succ]
        refine mix_take 9 _ (.agg #[.slice ar gr.length cr, .slice ac gc.length cc]) rfl rfl rfl (some 18) rfl (fun w' hw' => exec_row _ _ rfl (w.heap.size) rfl #[.slice ar gr.length cr, .slice ac gc.length cc] (blk_load blkG w' _ _ (HK.out w' hw').1 rfl)) ?_
        simp only [Act.put, List.setIfInBounds_toArray, List.set_cons_zero, List.set_cons_succ]
        refine mix_call 10 _ rfl rfl rfl 76 #[.agg #[.slice ar gr.length cr, .slice ac gc.length cc]] (some 19) rfl ?hr10 ?_
        case hr10 => go_simp
        refine (HCC.out _ hb5').mono ?_
        rintro e w6 ⟨rfl, hb6⟩
        have hb6' := bnext hb5' hb6
        refine ⟨_, rfl, hb6', ?_⟩
        simp only [Act.put, List.setIfInBounds_toArray, List.set_cons_zero, List.set_cons_succ]
        refine mix_take 11 _ ?_ rfl rfl rfl (some 20) rfl (fun w' hw' => ?hv11) ?_
        case hv11 =>
          go_simp
          with_reducible rfl
        simp only [Act.put, List.setIfInBounds_toArray, List.set_cons_zero, List.set_cons_succ]
        refine mix_take 12 _ ?_ rfl rfl rfl (some 21) rfl (fun w' hw' => ?hv12) ?_
        case hv12 =>
          go_simp
          with_reducible rfl
        simp only [Act.put, List.setIfInBounds_toArray, List.set_cons_zero, List.set_cons_succ]
        refine mix_take 13 _ ?_ rfl rfl rfl (some 22) rfl (fun w' hw' => ?hv13) ?_
        case hv13 =>
          go_simp
          with_reducible rfl
        simp only [Act.put, List.setIfInBounds_toArray, List.set_cons_zero, List.set_cons_succ]
        refine mix_skip 14 _ rfl rfl rfl (some 23) rfl ?_
        simp only [Act.put, List.setIfInBounds_toArray, List.set_cons_zero, List.set_cons_succ]
        refine mix_skip 15 _ rfl rfl rfl (some 24) rfl ?_
        simp only [Act.put, List.setIfInBounds_toArray, List.set_cons_zero, List.set_cons_succ]
        refine mix_take 16 _ ?_ rfl rfl rfl (some 25) rfl (fun w' hw' => ?hv16) ?_
        case hv16 =>
          go_simp
          with_reducible rfl
        simp only [Act.put, List.setIfInBounds_toArray, List.set_cons_zero, List.set_cons_succ]
        refine mix_take 17 _ ?_ rfl rfl rfl (some 26) rfl (fun w' hw' => ?hv17) ?_
        case hv17 =>
          go_simp
          with_reducible rfl
        simp only [Act.put, List.setIfInBounds_toArray, List.set_cons_zero, List.set_cons_succ]
        refine mix_skip 18 _ rfl rfl rfl (some 27) rfl ?_
        simp only [Act.put, List.setIfInBounds_toArray, List.set_cons_zero, List.set_cons_succ]
        refine mix_skip 19 _ rfl rfl rfl (some 28) rfl ?_
        simp only [Act.put, List.setIfInBounds_toArray, List.set_cons_zero, List.set_cons_succ]
        refine mix_take 20 _ ?_ rfl rfl rfl (some 29) rfl (fun w' hw' => ?hv20) ?_
        case hv20 =>
          go_simp
          with_reducible rfl
        simp only [Act.put, List.setIfInBounds_toArray, List.set_cons_zero, List.set_cons_succ]
        refine mix_done ?_
        have k4 := hp_later g4 hb6'
        go_wp2_with (first | (with_reducible refine build0_blk zgame run_build0_game rfl rfl ?_) | ((with_reducible refine store_blk blkG rfl _ _ rfl (w.heap.size + 1 + 1 + 1) (zgame) (zgame) ?_ ?_ k4 (rfl) (rfl) (zgame_one) (w.heap.size) (by omega) ?_); exact rfl; exact rfl; intro w8 hg8 hb8 hk8 hz8))
        exact bodyPost_ret (results_blk blkG rfl _ _ (w.heap.size + 1 + 1 + 1) _ (.bool false) rfl rfl hg8 rfl) rfl ⟨_, _, rfl, og_nil _ _ _ ((bnext hb hb6').trans hb8).size, (bnext hb hb6').trans hb8⟩
      · have d2 : decide ((n : Int) ≤ j) = false := by simpa using h2
        have hAT2 : atA gr gc j k = decide (-20 ≤ k ∧ k ≤ 20) := by rw [hAT true (by simp; omega), Bool.true_and]
        by_cases h3 : k < -20
        · have d3 : decide (k < -20) = true := by simpa using h3
          have HF : Hid (atB gr gc j k = false) := Lib.hid (by rw [atB, hAT2, decide_eq_false (by omega)]; rfl)
          rw [HF.out]
          clear hr4 hc4 eg k1 k2 hn hAT h1 h2 hAT2 h3
          clear hw1 hw2 hw3 hw4 hz1 hz2 hz3 hz4 hb1 hb2 hb3 hb4 hr hc g1 g2 g3
          go_enter Try.func44, Try.ntmps44
          go_wp2_with ((with_reducible refine alloc_blk zgame run_alloc_game rfl rfl ?_); simp only [World.size_alloc, Act.put, List.setIfInBounds_toArray, List.set_cons_zero, List.set_cons_succ])
          rw [← HW1.out, ← HW2.out, ← HW3.out, ← HW4.out]
          refine wp_region_mix (fun w' => Below w4.heap.size w4 w') [1, 10] [0, 1, 2, 3, 4, 5, 6, 7, 8, 9, 10, 11, 12, 13, 14, 15, 16, 17, 18, 19, 20] (by kernel_rfl) (by kernel_rfl) (fun _ _ d _ _ h => by cases d <;> exact h) (by kernel_rfl) rfl ((Same.refl w4).drew _) ?_
          have hbd : Below w4.heap.size w4 w4.drew := (Same.refl w4).drew _
          refine mix_take 0 _ (.agg #[.slice ar gr.length cr, .slice ac gc.length cc]) rfl rfl rfl (some 9) rfl (fun w' hw' => exec_row _ _ rfl (w.heap.size) rfl #[.slice ar gr.length cr, .slice ac gc.length cc] (blk_load blkG w' _ _ (HK.out w' hw').1 rfl)) ?_
          simp only [Act.put, List.setIfInBounds_toArray, List.set_cons_zero, List.set_cons_succ]
          refine mix_call 1 _ rfl rfl rfl 18 #[.agg #[.slice ar gr.length cr, .slice ac gc.length cc]] (some 10) rfl ?hr1 ?_
          case hr1 => go_simp
          refine (HG.out _ hbd).mono ?_
          rintro e w5 ⟨rfl, hb5⟩
          have hb5' : Below w4.heap.size w4 w5 := bnext hbd hb5
          refine ⟨_, rfl, hb5', ?_⟩
          simp only [Act.put, List.setIfInBounds_toArray, List.set_cons_zero, List.set_cons_succ]
          refine mix_take 2 _ ?_ rfl rfl rfl (some 11) rfl (fun w' hw' => ?hv2) ?_
          case hv2 =>
            go_simp
            with_reducible rfl
          simp only [Act.put, List.setIfInBounds_toArray, List.set_cons_zero, List.set_cons_succ]
          refine mix_take 3 _ ?_ rfl rfl rfl (some 12) rfl (fun w' hw' => ?hv3) ?_
          case hv3 =>
            go_simp
            with_reducible rfl
          simp only [Act.put, List.setIfInBounds_toArray, List.set_cons_zero, List.set_cons_succ]
          refine mix_take 4 _ ?_ rfl rfl rfl (some 13) rfl (fun w' hw' => ?hv4) ?_
          case hv4 =>
            have s0 := (HK.out w' hw').2.1
            go_simp
            with_reducible rfl
          simp only [Act.put, List.setIfInBounds_toArray, List.set_cons_zero, List.set_cons_succ]
          refine mix_take 5 _ ?_ rfl rfl rfl (some 14) rfl (fun w' hw' => ?hv5) ?_
          case hv5 =>
            go_simp
            with_reducible rfl
          simp only [Act.put, List.setIfInBounds_toArray, List.set_cons_zero, List.set_cons_succ]
          refine mix_take 6 _ ?_ rfl rfl rfl (some 15) rfl (fun w' hw' => ?hv6) ?_
          case hv6 =>
            go_simp
            with_reducible rfl
          simp only [Act.put, List.setIfInBounds_toArray, List.set_cons_zero, List.set_cons_succ]
          refine mix_take 7 _ ?_ rfl rfl rfl (some 16) rfl (fun w' hw' => ?hv7) ?_
          case hv7 =>
            go_simp
            with_reducible rfl
          simp only [Act.put, List.setIfInBounds_toArray, List.set_cons_zero, List.set_cons_succ]
          refine mix_take 8 _ ?_ rfl rfl rfl (some 17) rfl (fun w' hw' => ?hv8) ?_
          case hv8 =>
            have s0 := (HK.out w' hw').2.1
            go_simp
            with_reducible rfl
          simp only [Act.put, List.setIfInBounds_toArray, List.set_cons_zero, List.set_cons_succ]
          refine mix_take 9 _ (.agg #[.slice ar gr.length cr, .slice ac gc.length cc]) rfl rfl rfl (some 18) rfl (fun w' hw' => exec_row _ _ rfl (w.heap.size) rfl #[.slice ar gr.length cr, .slice ac gc.length cc] (blk_load blkG w' _ _ (HK.out w' hw').1 rfl)) ?_
          simp only [Act.put, List.setIfInBounds_toArray, List.set_cons_zero, List.set_cons_succ]
          refine mix_call 10 _ rfl rfl rfl 76 #[.agg #[.slice ar gr.length cr, .slice ac gc.length cc]] (some 19) rfl ?hr10 ?_
          case hr10 => go_simp
          refine (HCC.out _ hb5').mono ?_
          rintro e w6 ⟨rfl, hb6⟩
          have hb6' := bnext hb5' hb6
          refine ⟨_, rfl, hb6', ?_⟩
          simp only [Act.put, List.setIfInBounds_toArray, List.set_cons_zero, List.set_cons_succ]
          refine mix_take 11 _ ?_ rfl rfl rfl (some 20) rfl (fun w' hw' => ?hv11) ?_
          case hv11 =>
            go_simp
            with_reducible rfl
          simp only [Act.put, List.setIfInBounds_toArray, List.set_cons_zero, List.set_cons_succ]
          refine mix_take 12 _ ?_ rfl rfl rfl (some 21) rfl (fun w' hw' => ?hv12) ?_
          case hv12 =>
            go_simp
            with_reducible rfl
          simp only [Act.put, List.setIfInBounds_toArray, List.set_cons_zero, List.set_cons_succ]
          refine mix_take 13 _ ?_ rfl rfl rfl (some 22) rfl (fun w' hw' => ?hv13) ?_
          case hv13 =>
            go_simp
            with_reducible rfl
          simp only [Act.put, List.setIfInBounds_toArray, List.set_cons_zero, List.set_cons_succ]
          refine mix_take 14 _ ?_ rfl rfl rfl (some 23) rfl (fun w' hw' => ?hv14) ?_
          case hv14 =>
            have s0 := (HK.out w' hw').2.2
            go_simp
            with_reducible rfl
          simp only [Act.put, List.setIfInBounds_toArray, List.set_cons_zero, List.set_cons_succ]
          refine mix_take 15 _ ?_ rfl rfl rfl (some 24) rfl (fun w' hw' => ?hv15) ?_
          case hv15 =>
            go_simp
            with_reducible rfl
          simp only [Act.put, List.setIfInBounds_toArray, List.set_cons_zero, List.set_cons_succ]
          refine mix_take 16 _ ?_ rfl rfl rfl (some 25) rfl (fun w' hw' => ?hv16) ?_
          case hv16 =>
            go_simp
            with_reducible rfl
          simp only [Act.put, List.setIfInBounds_toArray, List.set_cons_zero, List.set_cons_succ]
          refine mix_take 17 _ ?_ rfl rfl rfl (some 26) rfl (fun w' hw' => ?hv17) ?_
          case hv17 =>
            go_simp
            with_reducible rfl
          simp only [Act.put, List.setIfInBounds_toArray, List.set_cons_zero, List.set_cons_succ]
          refine mix_skip 18 _ rfl rfl rfl (some 27) rfl ?_
          simp only [Act.put, List.setIfInBounds_toArray, List.set_cons_zero, List.set_cons_succ]
          refine mix_skip 19 _ rfl rfl rfl (some 28) rfl ?_
          simp only [Act.put, List.setIfInBounds_toArray, List.set_cons_zero, List.set_cons_succ]
          refine mix_take 20 _ ?_ rfl rfl rfl (some 29) rfl (fun w' hw' => ?hv20) ?_
          case hv20 =>
            go_simp
            with_reducible rfl
          simp only [Act.put, List.setIfInBounds_toArray, List.set_cons_zero, List.set_cons_succ]
          refine mix_done ?_
          have k4 := hp_later g4 hb6'
          go_wp2_with (first | (with_reducible refine build0_blk zgame run_build0_game rfl rfl ?_) | ((with_reducible refine store_blk blkG rfl _ _ rfl (w.heap.size + 1 + 1 + 1) (zgame) (zgame) ?_ ?_ k4 (rfl) (rfl) (zgame_one) (w.heap.size) (by omega) ?_); exact rfl; exact rfl; intro w8 hg8 hb8 hk8 hz8))
          exact bodyPost_ret (results_blk blkG rfl _ _ (w.heap.size + 1 + 1 + 1) _ (.bool false) rfl rfl hg8 rfl) rfl ⟨_, _, rfl, og_nil _ _ _ ((bnext hb hb6').trans hb8).size, (bnext hb hb6').trans hb8⟩
        · have d3 : decide (k < -20) = false := by simpa using h3
          by_cases h4 : 20 < k
          · have d4 : decide (20 < k) = true := by simpa using h4
            have HF : Hid (atB gr gc j k = false) := Lib.hid (by rw [atB, hAT2, decide_eq_false (by omega)]; rfl)
            rw [HF.out]
            clear hr4 hc4 eg k1 k2 hn hAT h1 h2 hAT2 h3 h4
            clear hw1 hw2 hw3 hw4 hz1 hz2 hz3 hz4 hb1 hb2 hb3 hb4 hr hc g1 g2 g3
            go_enter Try.func44, Try.ntmps44
            go_wp2_with ((with_reducible refine alloc_blk zgame run_alloc_game rfl rfl ?_); simp only [World.size_alloc, Act.put, List.setIfInBounds_toArray, List.set_cons_zero, List.set_cons_succ])
            rw [← HW1.out, ← HW2.out, ← HW3.out, ← HW4.out]
            refine wp_region_mix (fun w' => Below w4.heap.size w4 w') [1, 10] [0, 1, 2, 3, 4, 5, 6, 7, 8, 9, 10, 11, 12, 13, 14, 15, 16, 17, 18, 19, 20] (by kernel_rfl) (by kernel_rfl) (fun _ _ d _ _ h => by cases d <;> exact h) (by kernel_rfl) rfl ((Same.refl w4).drew _) ?_
            have hbd : Below w4.heap.size w4 w4.drew := (Same.refl w4).drew _
            refine mix_take 0 _ (.agg #[.slice ar gr.length cr, .slice ac gc.length cc]) rfl rfl rfl (some 9) rfl (fun w' hw' => exec_row _ _ rfl (w.heap.size) rfl #[.slice ar gr.length cr, .slice ac gc.length cc] (blk_load blkG w' _ _ (HK.out w' hw').1 rfl)) ?_
            simp only [Act.put, List.setIfInBounds_toArray, List.set_cons_zero, List.set_cons_succ]
            refine mix_call 1 _ rfl rfl rfl 18 #[.agg #[.slice ar gr.length cr, .slice ac gc.length cc]] (some 10) rfl ?hr1 ?_
            case hr1 => go_simp
            refine (HG.out _ hbd).mono ?_
            rintro e w5 ⟨rfl, hb5⟩
            have hb5' : Below w4.heap.size w4 w5 := bnext hbd hb5
            refine ⟨_, rfl, hb5', ?_⟩
            simp only [Act.put, List.setIfInBounds_toArray, List.set_cons_zero, List.set_cons_succ]
            refine mix_take 2 _ ?_ rfl rfl rfl (some 11) rfl (fun w' hw' => ?hv2) ?_
            case hv2 =>
              go_simp
              with_reducible rfl
            simp only [Act.put, List.setIfInBounds_toArray, List.set_cons_zero, List.set_cons_succ]
            refine mix_take 3 _ ?_ rfl rfl rfl (some 12) rfl (fun w' hw' => ?hv3) ?_
            case hv3 =>
              go_simp
              with_reducible rfl
            simp only [Act.put, List.setIfInBounds_toArray, List.set_cons_zero, List.set_cons_succ]
            refine mix_take 4 _ ?_ rfl rfl rfl (some 13) rfl (fun w' hw' => ?hv4) ?_
            case hv4 =>
              have s0 := (HK.out w' hw').2.1
              go_simp
              with_reducible rfl
            simp only [Act.put, List.setIfInBounds_toArray, List.set_cons_zero, List.set_cons_succ]
            refine mix_take 5 _ ?_ rfl rfl rfl (some 14) rfl (fun w' hw' => ?hv5) ?_
            case hv5 =>
              go_simp
              with_reducible rfl
            simp only [Act.put, List.setIfInBounds_toArray, List.set_cons_zero, List.set_cons_succ]
            refine mix_take 6 _ ?_ rfl rfl rfl (some 15) rfl (fun w' hw' => ?hv6) ?_
            case hv6 =>
              go_simp
              with_reducible rfl
            simp only [Act.put, List.setIfInBounds_toArray, List.set_cons_zero, List.set_cons_succ]
            refine mix_take 7 _ ?_ rfl rfl rfl (some 16) rfl (fun w' hw' => ?hv7) ?_
            case hv7 =>
              go_simp
              with_reducible rfl
            simp only [Act.put, List.setIfInBounds_toArray, List.set_cons_zero, List.set_cons_succ]
            refine mix_take 8 _ ?_ rfl rfl rfl (some 17) rfl (fun w' hw' => ?hv8) ?_
            case hv8 =>
              have s0 := (HK.out w' hw').2.1
              go_simp
              with_reducible rfl
            simp only [Act.put, List.setIfInBounds_toArray, List.set_cons_zero, List.set_cons_succ]
            refine mix_take 9 _ (.agg #[.slice ar gr.length cr, .slice ac gc.length cc]) rfl rfl rfl (some 18) rfl (fun w' hw' => exec_row _ _ rfl (w.heap.size) rfl #[.slice ar gr.length cr, .slice ac gc.length cc] (blk_load blkG w' _ _ (HK.out w' hw').1 rfl)) ?_
            simp only [Act.put, List.setIfInBounds_toArray, List.set_cons_zero, List.set_cons_succ]
            refine mix_call 10 _ rfl rfl rfl 76 #[.agg #[.slice ar gr.length cr, .slice ac gc.length cc]] (some 19) rfl ?hr10 ?_
            case hr10 => go_simp
            refine (HCC.out _ hb5').mono ?_
            rintro e w6 ⟨rfl, hb6⟩
            have hb6' := bnext hb5' hb6
            refine ⟨_, rfl, hb6', ?_⟩
            simp only [Act.put, List.setIfInBounds_toArray, List.set_cons_zero, List.set_cons_succ]
            refine mix_take 11 _ ?_ rfl rfl rfl (some 20) rfl (fun w' hw' => ?hv11) ?_
            case hv11 =>
              go_simp
              with_reducible rfl
            simp only [Act.put, List.setIfInBounds_toArray, List.set_cons_zero, List.set_cons_succ]
            refine mix_take 12 _ ?_ rfl rfl rfl (some 21) rfl (fun w' hw' => ?hv12) ?_
            case hv12 =>
              go_simp
              with_reducible rfl
            simp only [Act.put, List.setIfInBounds_toArray, List.set_cons_zero, List.set_cons_succ]
            refine mix_take 13 _ ?_ rfl rfl rfl (some 22) rfl (fun w' hw' => ?hv13) ?_
            case hv13 =>
              go_simp
              with_reducible rfl
            simp only [Act.put, List.setIfInBounds_toArray, List.set_cons_zero, List.set_cons_succ]
            refine mix_take 14 _ ?_ rfl rfl rfl (some 23) rfl (fun w' hw' => ?hv14) ?_
            case hv14 =>
              have s0 := (HK.out w' hw').2.2
              go_simp
              with_reducible rfl
            simp only [Act.put, List.setIfInBounds_toArray, List.set_cons_zero, List.set_cons_succ]
            refine mix_take 15 _ ?_ rfl rfl rfl (some 24) rfl (fun w' hw' => ?hv15) ?_
            case hv15 =>
              go_simp
              with_reducible rfl
            simp only [Act.put, List.setIfInBounds_toArray, List.set_cons_zero, List.set_cons_succ]
            refine mix_take 16 _ ?_ rfl rfl rfl (some 25) rfl (fun w' hw' => ?hv16) ?_
            case hv16 =>
              go_simp
              with_reducible rfl
            simp only [Act.put, List.setIfInBounds_toArray, List.set_cons_zero, List.set_cons_succ]
            refine mix_take 17 _ ?_ rfl rfl rfl (some 26) rfl (fun w' hw' => ?hv17) ?_
            case hv17 =>
              go_simp
              with_reducible rfl
            simp only [Act.put, List.setIfInBounds_toArray, List.set_cons_zero, List.set_cons_succ]
            refine mix_take 18 _ ?_ rfl rfl rfl (some 27) rfl (fun w' hw' => ?hv18) ?_
            case hv18 =>
              have s0 := (HK.out w' hw').2.2
              go_simp
              with_reducible rfl
            simp only [Act.put, List.setIfInBounds_toArray, List.set_cons_zero, List.set_cons_succ]
            refine mix_take 19 _ ?_ rfl rfl rfl (some 28) rfl (fun w' hw' => ?hv19) ?_
            case hv19 =>
              go_simp
              with_reducible rfl
            simp only [Act.put, List.setIfInBounds_toArray, List.set_cons_zero, List.set_cons_succ]
            refine mix_take 20 _ ?_ rfl rfl rfl (some 29) rfl (fun w' hw' => ?hv20) ?_
            case hv20 =>
              go_simp
              with_reducible rfl
            simp only [Act.put, List.setIfInBounds_toArray, List.set_cons_zero, List.set_cons_succ]
            refine mix_done ?_
            have k4 := hp_later g4 hb6'
            go_wp2_with (first | (with_reducible refine build0_blk zgame run_build0_game rfl rfl ?_) | ((with_reducible refine store_blk blkG rfl _ _ rfl (w.heap.size + 1 + 1 + 1) (zgame) (zgame) ?_ ?_ k4 (rfl) (rfl) (zgame_one) (w.heap.size) (by omega) ?_); exact rfl; exact rfl; intro w8 hg8 hb8 hk8 hz8))
            exact bodyPost_ret (results_blk blkG rfl _ _ (w.heap.size + 1 + 1 + 1) _ (.bool false) rfl rfl hg8 rfl) rfl ⟨_, _, rfl, og_nil _ _ _ ((bnext hb hb6').trans hb8).size, (bnext hb hb6').trans hb8⟩
          · have d4 : decide (20 < k) = false := by simpa using h4
            have HB : Hid (atB gr gc j k = gB (atL gr j k)) := Lib.hid (by rw [atB, hAT2, decide_eq_true (by omega), Bool.true_and])
            have HCH := Lib.hid (fun w' (hb : Below w4.heap.size w4 w') => show Calls Try.prog 79 #[.slice ar gr.length cr, .func (.func 80) #[] #[.pointer (some ⟨w.heap.size + 1, 0, none⟩), .pointer (some ⟨w.heap.size + 1 + 1, 0, none⟩)]] w' fun e w'' => ∃ v, e = .returned v ∧ CellsV w'' w'.heap.size v (atL gr j k) ∧ Below w'.heap.size w' w'' from by
              unfold atL
              rw [← hn]
              exact changed2_any gr _ _ k1 (addV j k) 80 (.pointer (some ⟨w.heap.size + 1, 0, none⟩)) (.pointer (some ⟨w.heap.size + 1 + 1, 0, none⟩)) (fun _ _ => rfl) ar cr w.heap.size w' (rdss_chg hr4 (chg_below hb) hle (.inr rfl)) (by have := hb.size; omega)
                (fun i c hi hc' w'' hb'' => add1_any j k c _ (k1.bd i hi c hc') (by omega) _ _ w'' (HK.out w'' (hb.trans (hb''.mono hb.size))).2.1 (HK.out w'' (hb.trans (hb''.mono hb.size))).2.2))
            have HCO := Lib.hid (fun w' (hb : Below w4.heap.size w4 w') => copied_any gc _ _ k2 ac cc w.heap.size w' (rdss_chg hc4 (chg_below hb) hle (.inr rfl)) (by have := hb.size; omega))
            have hmf : ∀ (fn : Fn) (first cap : Array Value) (w : World), (Instr.makeFunc fn first cap).run Try.prog w = .ok (.func fn first cap) w := fun _ _ _ _ => rfl
            rw [HB.out]
            clear hr4 hc4 eg k1 k2 hn hAT h1 h2 hAT2 h3 h4
            generalize atL gr j k = R at *
            clear hw1 hw2 hw3 hw4 hz1 hz2 hz3 hz4 hb1 hb2 hb3 hb4 hr hc g1 g2 g3
            cases hg : gB R
            · have HGR := Lib.hid hg
              clear hg
              go_enter Try.func44, Try.ntmps44
              go_wp2_with ((with_reducible refine alloc_blk zgame run_alloc_game rfl rfl ?_); simp only [World.size_alloc, Act.put, List.setIfInBounds_toArray, List.set_cons_zero, List.set_cons_succ])
              rw [← HW1.out, ← HW2.out, ← HW3.out, ← HW4.out]
              refine wp_region_mix (fun w' => Below w4.heap.size w4 w') [1, 10] [0, 1, 2, 3, 4, 5, 6, 7, 8, 9, 10, 11, 12, 13, 14, 15, 16, 17, 18, 19, 20] (by kernel_rfl) (by kernel_rfl) (fun _ _ d _ _ h => by cases d <;> exact h) (by kernel_rfl) rfl ((Same.refl w4).drew _) ?_
              have hbd : Below w4.heap.size w4 w4.drew := (Same.refl w4).drew _
              refine mix_take 0 _ (.agg #[.slice ar gr.length cr, .slice ac gc.length cc]) rfl rfl rfl (some 9) rfl (fun w' hw' => exec_row _ _ rfl (w.heap.size) rfl #[.slice ar gr.length cr, .slice ac gc.length cc] (blk_load blkG w' _ _ (HK.out w' hw').1 rfl)) ?_
              simp only [Act.put, List.setIfInBounds_toArray, List.set_cons_zero, List.set_cons_succ]
              refine mix_call 1 _ rfl rfl rfl 18 #[.agg #[.slice ar gr.length cr, .slice ac gc.length cc]] (some 10) rfl ?hr1 ?_
              case hr1 => go_simp
              refine (HG.out _ hbd).mono ?_
              rintro e w5 ⟨rfl, hb5⟩
              have hb5' : Below w4.heap.size w4 w5 := bnext hbd hb5
              refine ⟨_, rfl, hb5', ?_⟩
              simp only [Act.put, List.setIfInBounds_toArray, List.set_cons_zero, List.set_cons_succ]
              refine mix_take 2 _ ?_ rfl rfl rfl (some 11) rfl (fun w' hw' => ?hv2) ?_
              case hv2 =>
                go_simp
                with_reducible rfl
              simp only [Act.put, List.setIfInBounds_toArray, List.set_cons_zero, List.set_cons_succ]
              refine mix_take 3 _ ?_ rfl rfl rfl (some 12) rfl (fun w' hw' => ?hv3) ?_
              case hv3 =>
                go_simp
                with_reducible rfl
              simp only [Act.put, List.setIfInBounds_toArray, List.set_cons_zero, List.set_cons_succ]
              refine mix_take 4 _ ?_ rfl rfl rfl (some 13) rfl (fun w' hw' => ?hv4) ?_
              case hv4 =>
                have s0 := (HK.out w' hw').2.1
                go_simp
                with_reducible rfl
              simp only [Act.put, List.setIfInBounds_toArray, List.set_cons_zero, List.set_cons_succ]
              refine mix_take 5 _ ?_ rfl rfl rfl (some 14) rfl (fun w' hw' => ?hv5) ?_
              case hv5 =>
                go_simp
                with_reducible rfl
              simp only [Act.put, List.setIfInBounds_toArray, List.set_cons_zero, List.set_cons_succ]
              refine mix_take 6 _ ?_ rfl rfl rfl (some 15) rfl (fun w' hw' => ?hv6) ?_
              case hv6 =>
                go_simp
                with_reducible rfl
              simp only [Act.put, List.setIfInBounds_toArray, List.set_cons_zero, List.set_cons_succ]
              refine mix_take 7 _ ?_ rfl rfl rfl (some 16) rfl (fun w' hw' => ?hv7) ?_
              case hv7 =>
                go_simp
                with_reducible rfl
              simp only [Act.put, List.setIfInBounds_toArray, List.set_cons_zero, List.set_cons_succ]
              refine mix_take 8 _ ?_ rfl rfl rfl (some 17) rfl (fun w' hw' => ?hv8) ?_
              case hv8 =>
                have s0 := (HK.out w' hw').2.1
                go_simp
                with_reducible rfl
              simp only [Act.put, List.setIfInBounds_toArray, List.set_cons_zero, List.set_cons_succ]
              refine mix_take 9 _ (.agg #[.slice ar gr.length cr, .slice ac gc.length cc]) rfl rfl rfl (some 18) rfl (fun w' hw' => exec_row _ _ rfl (w.heap.size) rfl #[.slice ar gr.length cr, .slice ac gc.length cc] (blk_load blkG w' _ _ (HK.out w' hw').1 rfl)) ?_
              simp only [Act.put, List.setIfInBounds_toArray, List.set_cons_zero, List.set_cons_succ]
              refine mix_call 10 _ rfl rfl rfl 76 #[.agg #[.slice ar gr.length cr, .slice ac gc.length cc]] (some 19) rfl ?hr10 ?_
              case hr10 => go_simp
              refine (HCC.out _ hb5').mono ?_
              rintro e w6 ⟨rfl, hb6⟩
              have hb6' := bnext hb5' hb6
              refine ⟨_, rfl, hb6', ?_⟩
              simp only [Act.put, List.setIfInBounds_toArray, List.set_cons_zero, List.set_cons_succ]
              refine mix_take 11 _ ?_ rfl rfl rfl (some 20) rfl (fun w' hw' => ?hv11) ?_
              case hv11 =>
                go_simp
                with_reducible rfl
              simp only [Act.put, List.setIfInBounds_toArray, List.set_cons_zero, List.set_cons_succ]
              refine mix_take 12 _ ?_ rfl rfl rfl (some 21) rfl (fun w' hw' => ?hv12) ?_
              case hv12 =>
                go_simp
                with_reducible rfl
              simp only [Act.put, List.setIfInBounds_toArray, List.set_cons_zero, List.set_cons_succ]
              refine mix_take 13 _ ?_ rfl rfl rfl (some 22) rfl (fun w' hw' => ?hv13) ?_
              case hv13 =>
                go_simp
                with_reducible rfl
              simp only [Act.put, List.setIfInBounds_toArray, List.set_cons_zero, List.set_cons_succ]
              refine mix_take 14 _ ?_ rfl rfl rfl (some 23) rfl (fun w' hw' => ?hv14) ?_
              case hv14 =>
                have s0 := (HK.out w' hw').2.2
                go_simp
                with_reducible rfl
              simp only [Act.put, List.setIfInBounds_toArray, List.set_cons_zero, List.set_cons_succ]
              refine mix_take 15 _ ?_ rfl rfl rfl (some 24) rfl (fun w' hw' => ?hv15) ?_
              case hv15 =>
                go_simp
                with_reducible rfl
              simp only [Act.put, List.setIfInBounds_toArray, List.set_cons_zero, List.set_cons_succ]
              refine mix_take 16 _ ?_ rfl rfl rfl (some 25) rfl (fun w' hw' => ?hv16) ?_
              case hv16 =>
                go_simp
                with_reducible rfl
              simp only [Act.put, List.setIfInBounds_toArray, List.set_cons_zero, List.set_cons_succ]
              refine mix_take 17 _ ?_ rfl rfl rfl (some 26) rfl (fun w' hw' => ?hv17) ?_
              case hv17 =>
                go_simp
                with_reducible rfl
              simp only [Act.put, List.setIfInBounds_toArray, List.set_cons_zero, List.set_cons_succ]
              refine mix_take 18 _ ?_ rfl rfl rfl (some 27) rfl (fun w' hw' => ?hv18) ?_
              case hv18 =>
                have s0 := (HK.out w' hw').2.2
                go_simp
                with_reducible rfl
              simp only [Act.put, List.setIfInBounds_toArray, List.set_cons_zero, List.set_cons_succ]
              refine mix_take 19 _ ?_ rfl rfl rfl (some 28) rfl (fun w' hw' => ?hv19) ?_
              case hv19 =>
                go_simp
                with_reducible rfl
              simp only [Act.put, List.setIfInBounds_toArray, List.set_cons_zero, List.set_cons_succ]
              refine mix_take 20 _ ?_ rfl rfl rfl (some 29) rfl (fun w' hw' => ?hv20) ?_
              case hv20 =>
                go_simp
                with_reducible rfl
              simp only [Act.put, List.setIfInBounds_toArray, List.set_cons_zero, List.set_cons_succ]
              refine mix_done ?_
              have c0 := blk_cell (HK.out w6 hb6').1 0 _ rfl
              have hz6 := hb6'.size
              go_wp2_with fail
              refine (HCH.out _ hb6').mono ?_
              rintro e w7 ⟨v1, rfl, hc7, hb7⟩
              have hb7' := bnext hb6' hb7
              have hz7 := hb7.size
              obtain ⟨a1, c1, rfl, r1⟩ := oss_shape (oss_of hc7)
              have HAP := Lib.hid (arePays_any R a1 c1 _ _ r1)
              have k7 := hp_later g4 hb7'
              have e0 := blk_cell (HK.out w7 hb7').1 0 _ rfl
              have e1 := blk_cell (HK.out w7 hb7').1 1 _ rfl
              rw [HGR.out] at HAP
              clear hc7 r1
              go_wp2_with fail
              refine HAP.out.mono ?_
              rintro e w' ⟨rfl, rfl⟩
              go_wp2_with (first | (with_reducible refine build0_blk zgame run_build0_game rfl rfl ?_) | ((with_reducible refine store_blk blkG rfl _ _ rfl (w.heap.size + 1 + 1 + 1) (zgame) (zgame) ?_ ?_ k7 (rfl) (rfl) (zgame_one) (w.heap.size) (by omega) ?_); exact rfl; exact rfl; intro w8 hg8 hb8 hk8 hz8))
              exact bodyPost_ret (results_blk blkG rfl _ _ (w.heap.size + 1 + 1 + 1) _ (.bool false) rfl rfl hg8 rfl) rfl ⟨_, _, rfl, og_nil _ _ _ ((bnext hb hb7').trans hb8).size, (bnext hb hb7').trans hb8⟩
            · have HGR := Lib.hid hg
              clear hg
              rw [if_pos rfl, if_pos rfl]
              go_enter Try.func44, Try.ntmps44
              go_wp2_with ((with_reducible refine alloc_blk zgame run_alloc_game rfl rfl ?_); simp only [World.size_alloc, Act.put, List.setIfInBounds_toArray, List.set_cons_zero, List.set_cons_succ])
              rw [← HW1.out, ← HW2.out, ← HW3.out, ← HW4.out]
              refine wp_region_mix (fun w' => Below w4.heap.size w4 w') [1, 10] [0, 1, 2, 3, 4, 5, 6, 7, 8, 9, 10, 11, 12, 13, 14, 15, 16, 17, 18, 19, 20] (by kernel_rfl) (by kernel_rfl) (fun _ _ d _ _ h => by cases d <;> exact h) (by kernel_rfl) rfl ((Same.refl w4).drew _) ?_
              have hbd : Below w4.heap.size w4 w4.drew := (Same.refl w4).drew _
              refine mix_take 0 _ (.agg #[.slice ar gr.length cr, .slice ac gc.length cc]) rfl rfl rfl (some 9) rfl (fun w' hw' => exec_row _ _ rfl (w.heap.size) rfl #[.slice ar gr.length cr, .slice ac gc.length cc] (blk_load blkG w' _ _ (HK.out w' hw').1 rfl)) ?_
              simp only [Act.put, List.setIfInBounds_toArray, List.set_cons_zero, List.set_cons_succ]
              refine mix_call 1 _ rfl rfl rfl 18 #[.agg #[.slice ar gr.length cr, .slice ac gc.length cc]] (some 10) rfl ?hr1 ?_
              case hr1 => go_simp
              refine (HG.out _ hbd).mono ?_
              rintro e w5 ⟨rfl, hb5⟩
              have hb5' : Below w4.heap.size w4 w5 := bnext hbd hb5
              refine ⟨_, rfl, hb5', ?_⟩
              simp only [Act.put, List.setIfInBounds_toArray, List.set_cons_zero, List.set_cons_succ]
              refine mix_take 2 _ ?_ rfl rfl rfl (some 11) rfl (fun w' hw' => ?hv2) ?_
              case hv2 =>
                go_simp
                with_reducible rfl
              simp only [Act.put, List.setIfInBounds_toArray, List.set_cons_zero, List.set_cons_succ]
              refine mix_take 3 _ ?_ rfl rfl rfl (some 12) rfl (fun w' hw' => ?hv3) ?_
              case hv3 =>
                go_simp
                with_reducible rfl
              simp only [Act.put, List.setIfInBounds_toArray, List.set_cons_zero, List.set_cons_succ]
              refine mix_take 4 _ ?_ rfl rfl rfl (some 13) rfl (fun w' hw' => ?hv4) ?_
              case hv4 =>
                have s0 := (HK.out w' hw').2.1
                go_simp
                with_reducible rfl
              simp only [Act.put, List.setIfInBounds_toArray, List.set_cons_zero, List.set_cons_succ]
              refine mix_take 5 _ ?_ rfl rfl rfl (some 14) rfl (fun w' hw' => ?hv5) ?_
              case hv5 =>
                go_simp
                with_reducible rfl
              simp only [Act.put, List.setIfInBounds_toArray, List.set_cons_zero, List.set_cons_succ]
              refine mix_take 6 _ ?_ rfl rfl rfl (some 15) rfl (fun w' hw' => ?hv6) ?_
              case hv6 =>
                go_simp
                with_reducible rfl
              simp only [Act.put, List.setIfInBounds_toArray, List.set_cons_zero, List.set_cons_succ]
              refine mix_take 7 _ ?_ rfl rfl rfl (some 16) rfl (fun w' hw' => ?hv7) ?_
              case hv7 =>
                go_simp
                with_reducible rfl
              simp only [Act.put, List.setIfInBounds_toArray, List.set_cons_zero, List.set_cons_succ]
              refine mix_take 8 _ ?_ rfl rfl rfl (some 17) rfl (fun w' hw' => ?hv8) ?_
              case hv8 =>
                have s0 := (HK.out w' hw').2.1
                go_simp
                with_reducible rfl
              simp only [Act.put, List.setIfInBounds_toArray, List.set_cons_zero, List.set_cons_succ]
              refine mix_take 9 _ (.agg #[.slice ar gr.length cr, .slice ac gc.length cc]) rfl rfl rfl (some 18) rfl (fun w' hw' => exec_row _ _ rfl (w.heap.size) rfl #[.slice ar gr.length cr, .slice ac gc.length cc] (blk_load blkG w' _ _ (HK.out w' hw').1 rfl)) ?_
              simp only [Act.put, List.setIfInBounds_toArray, List.set_cons_zero, List.set_cons_succ]
              refine mix_call 10 _ rfl rfl rfl 76 #[.agg #[.slice ar gr.length cr, .slice ac gc.length cc]] (some 19) rfl ?hr10 ?_
              case hr10 => go_simp
              refine (HCC.out _ hb5').mono ?_
              rintro e w6 ⟨rfl, hb6⟩
              have hb6' := bnext hb5' hb6
              refine ⟨_, rfl, hb6', ?_⟩
              simp only [Act.put, List.setIfInBounds_toArray, List.set_cons_zero, List.set_cons_succ]
              refine mix_take 11 _ ?_ rfl rfl rfl (some 20) rfl (fun w' hw' => ?hv11) ?_
              case hv11 =>
                go_simp
                with_reducible rfl
              simp only [Act.put, List.setIfInBounds_toArray, List.set_cons_zero, List.set_cons_succ]
              refine mix_take 12 _ ?_ rfl rfl rfl (some 21) rfl (fun w' hw' => ?hv12) ?_
              case hv12 =>
                go_simp
                with_reducible rfl
              simp only [Act.put, List.setIfInBounds_toArray, List.set_cons_zero, List.set_cons_succ]
              refine mix_take 13 _ ?_ rfl rfl rfl (some 22) rfl (fun w' hw' => ?hv13) ?_
              case hv13 =>
                go_simp
                with_reducible rfl
              simp only [Act.put, List.setIfInBounds_toArray, List.set_cons_zero, List.set_cons_succ]
              refine mix_take 14 _ ?_ rfl rfl rfl (some 23) rfl (fun w' hw' => ?hv14) ?_
              case hv14 =>
                have s0 := (HK.out w' hw').2.2
                go_simp
                with_reducible rfl
              simp only [Act.put, List.setIfInBounds_toArray, List.set_cons_zero, List.set_cons_succ]
              refine mix_take 15 _ ?_ rfl rfl rfl (some 24) rfl (fun w' hw' => ?hv15) ?_
              case hv15 =>
                go_simp
                with_reducible rfl
              simp only [Act.put, List.setIfInBounds_toArray, List.set_cons_zero, List.set_cons_succ]
              refine mix_take 16 _ ?_ rfl rfl rfl (some 25) rfl (fun w' hw' => ?hv16) ?_
              case hv16 =>
                go_simp
                with_reducible rfl
              simp only [Act.put, List.setIfInBounds_toArray, List.set_cons_zero, List.set_cons_succ]
              refine mix_take 17 _ ?_ rfl rfl rfl (some 26) rfl (fun w' hw' => ?hv17) ?_
              case hv17 =>
                go_simp
                with_reducible rfl
              simp only [Act.put, List.setIfInBounds_toArray, List.set_cons_zero, List.set_cons_succ]
              refine mix_take 18 _ ?_ rfl rfl rfl (some 27) rfl (fun w' hw' => ?hv18) ?_
              case hv18 =>
                have s0 := (HK.out w' hw').2.2
                go_simp
                with_reducible rfl
              simp only [Act.put, List.setIfInBounds_toArray, List.set_cons_zero, List.set_cons_succ]
              refine mix_take 19 _ ?_ rfl rfl rfl (some 28) rfl (fun w' hw' => ?hv19) ?_
              case hv19 =>
                go_simp
                with_reducible rfl
              simp only [Act.put, List.setIfInBounds_toArray, List.set_cons_zero, List.set_cons_succ]
              refine mix_take 20 _ ?_ rfl rfl rfl (some 29) rfl (fun w' hw' => ?hv20) ?_
              case hv20 =>
                go_simp
                with_reducible rfl
              simp only [Act.put, List.setIfInBounds_toArray, List.set_cons_zero, List.set_cons_succ]
              refine mix_done ?_
              have c0 := blk_cell (HK.out w6 hb6').1 0 _ rfl
              have hz6 := hb6'.size
              go_wp2_with fail
              refine (HCH.out _ hb6').mono ?_
              rintro e w7 ⟨v1, rfl, hc7, hb7⟩
              have hb7' := bnext hb6' hb7
              have hz7 := hb7.size
              obtain ⟨a1, c1, rfl, r1⟩ := oss_shape (oss_of hc7)
              have HAP := Lib.hid (arePays_any R a1 c1 _ _ r1)
              have k7 := hp_later g4 hb7'
              have e0 := blk_cell (HK.out w7 hb7').1 0 _ rfl
              have e1 := blk_cell (HK.out w7 hb7').1 1 _ rfl
              rw [HGR.out] at HAP
              have HC7 := Lib.hid hc7
              clear hc7 r1
              go_wp2_with fail
              refine HAP.out.mono ?_
              rintro e w' ⟨rfl, rfl⟩
              go_wp2_with fail
              refine (HCO.out _ hb7').mono ?_
              rintro e w8 ⟨v2, rfl, hc8, hb8⟩
              have hz8 := hb8.size
              have o1 := oss_keep (oss_of HC7.out) (chg_below hb8) (Nat.le_refl _) (.inl (Nat.zero_le _))
              have o2 := oss_of hc8
              obtain ⟨a2, c2, rfl, -⟩ := oss_shape o2
              have hb8' := bnext hb7' hb8
              have hbd2 := run_build_game a1 a2 R.length gc.length c1 c2
              have k8 := hp_later k7 hb8
              go_wp2_with (first | (with_reducible refine build_blk #[.slice a1 R.length c1, .slice a2 gc.length c2] #[(0, .slice a1 R.length c1), (1, .slice a2 gc.length c2)] hbd2 rfl _ rfl rfl ?_) | ((with_reducible refine store_blk blkG rfl _ _ rfl (w.heap.size + 1 + 1 + 1) (#[.slice a1 R.length c1, .slice a2 gc.length c2]) (zgame) ?_ ?_ k8 (rfl) (rfl) ((one2 _ _ _ _ _ _)) (w.heap.size) (by omega) ?_); exact rfl; exact rfl; intro w9 hg9 hb9 hk9 hz9))
              have hz4 := HZ4.out
              have hch9 : Chg (w.heap.size + 3) (w.heap.size + 4) w8 w9 := ⟨hb9.os, hb9.tape, hb9.output, hb9.size, fun k _ hx => hk9 k (by omega)⟩
              exact bodyPost_ret (results_blk blkG rfl _ _ (w.heap.size + 1 + 1 + 1) _ (.bool true) rfl rfl hg9 rfl) rfl ⟨_, _, rfl, ⟨w7.heap.size, by omega, by omega, oss_low (oss_keep o1 hch9 (by omega) (.inl (by omega))) (by omega), oss_high (oss_keep o2 hch9 (by omega) (.inl (by omega))) (by omega)⟩, (bnext hb hb8').trans hb9⟩
end Go.Proofs.Ytlkgmnmnlfaopaa
