import Derived.LoopN
import Derived.BigRegion
import Derived.BigQuiet
import Derived.Test.YtlkgmnmnlfaopaaVColumnReplies
import Derived.Test.YtlkgmnmnlfaopaaQ17
namespace Go.Proofs.Ytlkgmnmnlfaopaa
open Go.RowKit
set_option maxRecDepth 4000
set_option maxHeartbeats 3200000 in
theorem specColumnReplies (gr gc : List (List Int)) (y : List Int) (ar ac ay : Option Addr) (cr cc cy : Nat) (w : World) (hr : RdSS w w.heap.size ar gr) (hc : RdSS w w.heap.size ac gc) (hy : RdS w w.heap.size ay y) :
    Calls Try.prog 29 #[.agg #[.slice ar gr.length cr, .slice ac gc.length cc], .slice ay y.length cy] w (OutColumnReplies w (if crB gr gc y then bestL (payL (trL gc gr.length (gr.getD 0 []).length) y gr.length) else []) (crB gr gc y)) := by
  obtain ⟨w1, hw1⟩ : ∃ w1, w1 = (w.alloc (.cells #[.slice ar gr.length cr, .slice ac gc.length cc] 27)) := ⟨_, rfl⟩
  have hb1 : Below w.heap.size w w1 := by rw [hw1]; exact balloc (Below.refl w.heap.size w) _
  have hz1 := hb1.size
  have g1 : w1.heap[w.heap.size]? = some (.cells #[.slice ar gr.length cr, .slice ac gc.length cc] 27 (0, 0)) := by rw [hw1]; exact heap_alloc_new w _
  have c0 := blk_cell g1 0 _ rfl
  have c1 := blk_cell g1 1 _ rfl
  have hr1 := rdss_chg hr (chg_below hb1) (Nat.le_refl _) (.inr rfl)
  have hc1 := rdss_chg hc (chg_below hb1) (Nat.le_refl _) (.inr rfl)
  have hy1 := rds_chg hy (chg_below hb1) (Nat.le_refl _) (.inr rfl)
  have HG := Lib.hid (gmGood_any gr gc ar ac cr cc w.heap.size w1 hr1 hc1 hz1)
  have HW := Lib.hid hw1
  cases eg : gameB gr gc
  · have HF : Hid (crB gr gc y = false) := Lib.hid (by simp only [crB, eg, Bool.false_and])
    rw [eg] at HG
    rw [HF.out]
    clear hw1 hr hc hy hr1 hc1 hy1 eg
    go_enter Try.func29, Try.ntmps29
    go_wp2_with fail
    rw [← HW.out]
    refine HG.out.mono ?_
    rintro e w2 ⟨rfl, hb2⟩
    go_wp2_with fail
    go_returns
    exact ⟨_, rfl, oi_nil _ _ _, bnext hb1 hb2⟩
  · rw [eg] at HG
    obtain ⟨k1, k2⟩ := gameB_sizes eg
    have hk1 := k1.m1
    have hkn := k1.n1
    obtain ⟨-, bR, oR, hxR⟩ := id hr1
    obtain ⟨hae, hbR, ra0, rc0, kR, -⟩ := hxR 0 (by omega)
    subst hae
    rw [Nat.add_zero] at kR
    have HKR := Lib.hid (fun w' (hb : Below w1.heap.size w1 w') => (hb.cell (p := ⟨bR, oR, none⟩) (by show bR < _; omega)).trans kR)
    have HWT := Lib.hid (fun w' (hb : Below w1.heap.size w1 w') => show Calls Try.prog 56 #[.slice ay y.length cy, .int .i64 (gr.length : Nat)] w' fun e w'' => e = .returned (.bool (wB (gr.length : Nat) 1000000 y)) ∧ ∀ B, B ≤ w'.heap.size → Below B w' w'' from (gmWeights_any y (gr.length : Nat) ay cy _ w' (rds_chg hy1 (chg_below hb) hz1 (.inr rfl))).mono (by rintro e w'' ⟨rfl, rfl⟩; exact ⟨rfl, fun _ _ => Below.refl _ _⟩))
    cases ew : wB gr.length 1000000 y
    · have HF : Hid (crB gr gc y = false) := Lib.hid (by simp only [crB, eg, ew, Bool.and_false])
      rw [ew] at HWT
      rw [HF.out]
      clear hw1 hr hc hy hr1 hc1 hy1 eg ew k1 k2 hxR
      generalize (gr.getD 0 []).length = n at *
      go_enter Try.func29, Try.ntmps29
      go_wp2_with fail
      rw [← HW.out]
      refine HG.out.mono ?_
      rintro e w2 ⟨rfl, hb2⟩
      have d0 := blk_cell (hp_later g1 hb2) 0 _ rfl
      have d1 := blk_cell (hp_later g1 hb2) 1 _ rfl
      have dR := HKR.out _ hb2
      have hrn : 0 < gr.length := hk1
      go_wp2_with fail
      refine (HWT.out _ hb2).mono ?_
      rintro e w3 ⟨rfl, hb3⟩
      go_wp2_with fail
      go_returns
      exact ⟨_, rfl, oi_nil _ _ _, bnext hb1 (hb2.trans (hb3 _ hb2.size))⟩
    · have HF : Hid (crB gr gc y = true) := Lib.hid (by simp only [crB, eg, ew, Bool.and_true])
      rw [ew] at HWT
      rw [HF.out, if_pos rfl]
      have HRES := Lib.hid (fun w' (hb : Below w1.heap.size w1 w') => gmTurned_any gc gr.length (gr.getD 0 []).length k2 ac cc w.heap.size w' (rdss_chg hc1 (chg_below hb) hz1 (.inr rfl)) (by have := hb.size; omega))
      have HRE2 := Lib.hid (fun w' (hb : Below w1.heap.size w1 w') a1 c1 (h1 : RdSS w' w'.heap.size a1 (trL gc gr.length (gr.getD 0 []).length)) => gmReplies_any (trL gc gr.length (gr.getD 0 []).length) _ _ (trL_ok k2) y 1000000 (wB_all ew) (by omega) (wB_len ew) a1 ay c1 cy w'.heap.size w' h1 (rds_mono (rds_chg hy1 (chg_below hb) hz1 (.inr rfl)) (by have := hb.size; omega)) (Nat.le_refl _))
      clear hw1 hr hc hy hr1 hc1 hy1 eg ew k1 k2 hxR
      have HRS : Hid (∃ R, R = bestL (payL (trL gc gr.length (gr.getD 0 []).length) y gr.length)) := Lib.hid ⟨_, rfl⟩
      generalize bestL (payL (trL gc gr.length (gr.getD 0 []).length) y gr.length) = R at *
      clear HRS
      generalize (gr.getD 0 []).length = n at *
      go_enter Try.func29, Try.ntmps29
      go_wp2_with fail
      rw [← HW.out]
      refine HG.out.mono ?_
      rintro e w2 ⟨rfl, hb2⟩
      have d0 := blk_cell (hp_later g1 hb2) 0 _ rfl
      have d1 := blk_cell (hp_later g1 hb2) 1 _ rfl
      have dR := HKR.out _ hb2
      have hrn : 0 < gr.length := hk1
      go_wp2_with fail
      refine (HWT.out _ hb2).mono ?_
      rintro e w3 ⟨rfl, hb3⟩
      have hb3 := hb2.trans (hb3 _ hb2.size)
      have d0 := blk_cell (hp_later g1 hb3) 0 _ rfl
      have d1 := blk_cell (hp_later g1 hb3) 1 _ rfl
      have hz3 := hb3.size
      go_wp2_with fail
      refine (HRES.out _ hb3).mono ?_
      rintro e w4 ⟨v, rfl, hcv, hb4⟩
      obtain ⟨a1, c1, rfl, r1⟩ := oss_shape (oss_of hcv)
      have hz4 := hb4.size
      go_wp2_with fail
      refine (HRE2.out _ (bnext hb3 hb4) _ _ r1).mono ?_
      rintro e w5 ⟨v, rfl, ho, hb5⟩
      obtain ⟨pa, pc, pb, rfl, -, -⟩ := oi_shape ho
      go_wp2_with fail
      go_returns
      obtain ⟨et, ho1, ho2⟩ := ho
      exact ⟨_, rfl, ⟨et, own_base ho1 (by omega), ho2⟩, bnext (bnext (bnext hb1 hb3) hb4) hb5⟩
set_option maxHeartbeats 3200000 in
theorem implColumnReplies (gr gc : List (List Int)) (y : List Int) (ar ac ay : Option Addr) (cr cc cy : Nat) (w : World) (hr : RdSS w w.heap.size ar gr) (hc : RdSS w w.heap.size ac gc) (hy : RdS w w.heap.size ay y) :
    Calls Try.prog 30 #[.agg #[.slice ar gr.length cr, .slice ac gc.length cc], .slice ay y.length cy] w (OutColumnReplies w (if crB gr gc y then bestL (payL (trL gc gr.length (gr.getD 0 []).length) y gr.length) else []) (crB gr gc y)) := by
  obtain ⟨w1, hw1⟩ : ∃ w1, w1 = (w.alloc (.cells #[.slice ar gr.length cr, .slice ac gc.length cc] 27)) := ⟨_, rfl⟩
  have hb1 : Below w.heap.size w w1 := by rw [hw1]; exact balloc (Below.refl w.heap.size w) _
  have hz1 := hb1.size
  have g1 : w1.heap[w.heap.size]? = some (.cells #[.slice ar gr.length cr, .slice ac gc.length cc] 27 (0, 0)) := by rw [hw1]; exact heap_alloc_new w _
  have c0 := blk_cell g1 0 _ rfl
  have c1 := blk_cell g1 1 _ rfl
  have hr1 := rdss_chg hr (chg_below hb1) (Nat.le_refl _) (.inr rfl)
  have hc1 := rdss_chg hc (chg_below hb1) (Nat.le_refl _) (.inr rfl)
  have hy1 := rds_chg hy (chg_below hb1) (Nat.le_refl _) (.inr rfl)
  have HG := Lib.hid (isGame_any gr gc ar ac cr cc w.heap.size w1 hr1 hc1 hz1)
  have HW := Lib.hid hw1
  cases eg : gameB gr gc
  · have HF : Hid (crB gr gc y = false) := Lib.hid (by simp only [crB, eg, Bool.false_and])
    rw [eg] at HG
    rw [HF.out]
    clear hw1 hr hc hy hr1 hc1 hy1 eg
    go_enter Try.func30, Try.ntmps30
    go_wp2_with fail
    rw [← HW.out]
    refine HG.out.mono ?_
    rintro e w2 ⟨rfl, hb2⟩
    go_wp2_with fail
    go_returns
    exact ⟨_, rfl, oi_nil _ _ _, bnext hb1 hb2⟩
  · rw [eg] at HG
    obtain ⟨k1, k2⟩ := gameB_sizes eg
    have hk1 := k1.m1
    have hkn := k1.n1
    obtain ⟨-, bR, oR, hxR⟩ := id hr1
    obtain ⟨hae, hbR, ra0, rc0, kR, -⟩ := hxR 0 (by omega)
    subst hae
    rw [Nat.add_zero] at kR
    have HKR := Lib.hid (fun w' (hb : Below w1.heap.size w1 w') => (hb.cell (p := ⟨bR, oR, none⟩) (by show bR < _; omega)).trans kR)
    have HWT := Lib.hid (fun w' (hb : Below w1.heap.size w1 w') => show Calls Try.prog 63 #[.agg #[.slice (some ⟨bR, oR, none⟩) gr.length cr, .slice ac gc.length cc], .slice ay y.length cy, .int .i64 (1000000 : Nat)] w' fun e w'' => e = .returned (.bool (wB (gr.length : Nat) 1000000 y)) ∧ ∀ B, B ≤ w'.heap.size → Below B w' w'' from (areRow_any gr _ _ k1 y 1000000 (by omega) _ ay cr cy w.heap.size _ w' (rds_chg hy1 (chg_below hb) hz1 (.inr rfl)) (by have := hb.size; omega)).mono (by rintro e w'' ⟨rfl, hb⟩; exact ⟨rfl, fun _ h => hb.mono h⟩))
    cases ew : wB gr.length 1000000 y
    · have HF : Hid (crB gr gc y = false) := Lib.hid (by simp only [crB, eg, ew, Bool.and_false])
      rw [ew] at HWT
      rw [HF.out]
      clear hw1 hr hc hy hr1 hc1 hy1 eg ew k1 k2 hxR
      generalize (gr.getD 0 []).length = n at *
      go_enter Try.func30, Try.ntmps30
      go_wp2_with fail
      rw [← HW.out]
      refine HG.out.mono ?_
      rintro e w2 ⟨rfl, hb2⟩
      have d0 := blk_cell (hp_later g1 hb2) 0 _ rfl
      have d1 := blk_cell (hp_later g1 hb2) 1 _ rfl
      have dR := HKR.out _ hb2
      have hrn : 0 < gr.length := hk1
      go_wp2_with fail
      refine (HWT.out _ hb2).mono ?_
      rintro e w3 ⟨rfl, hb3⟩
      go_wp2_with fail
      go_returns
      exact ⟨_, rfl, oi_nil _ _ _, bnext hb1 (hb2.trans (hb3 _ hb2.size))⟩
    · have HF : Hid (crB gr gc y = true) := Lib.hid (by simp only [crB, eg, ew, Bool.and_true])
      rw [ew] at HWT
      rw [HF.out, if_pos rfl]
      have HRES := Lib.hid (fun w' (hb : Below w1.heap.size w1 w') => bestColumns_any gr gc gr.length (gr.getD 0 []).length k1 k2 y 1000000 (wB_all ew) (by omega) (wB_len ew) (some ⟨bR, oR, none⟩) ac ay cr cc cy w.heap.size w' (rdss_chg hr1 (chg_below hb) hz1 (.inr rfl)) (rdss_chg hc1 (chg_below hb) hz1 (.inr rfl)) (rds_chg hy1 (chg_below hb) hz1 (.inr rfl)) (by have := hb.size; omega))
      clear hw1 hr hc hy hr1 hc1 hy1 eg ew k1 k2 hxR
      have HRS : Hid (∃ R, R = bestL (payL (trL gc gr.length (gr.getD 0 []).length) y gr.length)) := Lib.hid ⟨_, rfl⟩
      generalize bestL (payL (trL gc gr.length (gr.getD 0 []).length) y gr.length) = R at *
      clear HRS
      generalize (gr.getD 0 []).length = n at *
      go_enter Try.func30, Try.ntmps30
      go_wp2_with fail
      rw [← HW.out]
      refine HG.out.mono ?_
      rintro e w2 ⟨rfl, hb2⟩
      have d0 := blk_cell (hp_later g1 hb2) 0 _ rfl
      have d1 := blk_cell (hp_later g1 hb2) 1 _ rfl
      have dR := HKR.out _ hb2
      have hrn : 0 < gr.length := hk1
      go_wp2_with fail
      refine (HWT.out _ hb2).mono ?_
      rintro e w3 ⟨rfl, hb3⟩
      have hb3 := hb2.trans (hb3 _ hb2.size)
      have d0 := blk_cell (hp_later g1 hb3) 0 _ rfl
      have d1 := blk_cell (hp_later g1 hb3) 1 _ rfl
      have hz3 := hb3.size
      go_wp2_with fail
      refine (HRES.out _ hb3).mono ?_
      rintro e w4 ⟨v, rfl, ho, hb4⟩
      obtain ⟨pa, pc, pb, rfl, -, -⟩ := oi_shape ho
      go_wp2_with fail
      go_returns
      obtain ⟨et, ho1, ho2⟩ := ho
      exact ⟨_, rfl, ⟨et, own_base ho1 (by omega), ho2⟩, bnext (bnext hb1 hb3) hb4⟩
theorem len_ColumnReplies (gr gc : List (List Int)) (y : List Int) : (if crB gr gc y then bestL (payL (trL gc gr.length (gr.getD 0 []).length) y gr.length) else []).length ≤ 100000 := by
  cases h : crB gr gc y
  · simp
  · rw [if_pos rfl]
    have h1 := (gameB_sizes (by simp only [crB, Bool.and_eq_true] at h; exact h.1)).1
    have h2 := bestL_len (payL (trL gc gr.length (gr.getD 0 []).length) y gr.length)
    rw [payL_len] at h2
    have h3 := h1.m3
    have h4 := h1.n3
    unfold trL at h2
    rw [gridL_len] at h2
    unfold trL
    omega
theorem law_ColumnReplies (w : World) (gr : List (List Int)) (a_gr : Option Addr) (c_gr : Nat) (gc : List (List Int)) (a_gc : Option Addr) (c_gc : Nat) (h_gr : RdSS w w.heap.size a_gr gr) (h_gc : RdSS w w.heap.size a_gc gc) (y : List Int) (a_y : Option Addr) (c_y : Nat) (h_y : RdS w w.heap.size a_y y) :
    Calls Try.prog 6 #[.agg #[.slice a_gr gr.length c_gr, .slice a_gc gc.length c_gc], .slice a_y y.length c_y] w fun e w' => e = .returned (.bool true) ∧ Below w.heap.size w w' := by
  exact lawOf_ColumnReplies gr a_gr c_gr gc a_gc c_gc y a_y c_y w h_gr h_gc h_y _ (len_ColumnReplies gr gc y) _ (fun a c a' c' a2 c2 w' _ _ _ h h' h2 => specColumnReplies gr gc y a a' a2 c c' c2 w' h h' h2) (fun a c a' c' a2 c2 w' _ _ _ h h' h2 => implColumnReplies gr gc y a a' a2 c c' c2 w' h h' h2)
end Go.Proofs.Ytlkgmnmnlfaopaa
