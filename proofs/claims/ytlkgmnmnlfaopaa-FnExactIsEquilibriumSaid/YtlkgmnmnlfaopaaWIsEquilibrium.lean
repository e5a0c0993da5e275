import Derived.LoopN
import Derived.BigRegion
import Derived.BigQuiet
import Derived.Test.YtlkgmnmnlfaopaaVIsEquilibrium
import Derived.Test.YtlkgmnmnlfaopaaQ20
namespace Go.Proofs.Ytlkgmnmnlfaopaa
open Go.RowKit
set_option maxRecDepth 4000
def ieR (gr gc : List (List Int)) (x y : List Int) : Bool := ieB gr gc x y 1000000 && eqB gr gc gr.length (gr.getD 0 []).length x y
set_option maxHeartbeats 3200000 in
theorem specIsEquilibrium (gr gc : List (List Int)) (x y : List Int) (ar ac ax ay : Option Addr) (cr cc cx cy : Nat) (w : World) (hr : RdSS w w.heap.size ar gr) (hc : RdSS w w.heap.size ac gc) (hx : RdS w w.heap.size ax x) (hy : RdS w w.heap.size ay y) :
    Calls Try.prog 33 #[.agg #[.slice ar gr.length cr, .slice ac gc.length cc], .slice ax x.length cx, .slice ay y.length cy] w (OutIsEquilibrium w (ieR gr gc x y) (ieB gr gc x y 1000000)) := by
  obtain ⟨w1, hw1⟩ : ∃ w1, w1 = (w.alloc (.cells #[.slice ar gr.length cr, .slice ac gc.length cc] 27)) := ⟨_, rfl⟩
  have hb1 : Below w.heap.size w w1 := by rw [hw1]; exact balloc (Below.refl w.heap.size w) _
  have hz1 := hb1.size
  have g1 : w1.heap[w.heap.size]? = some (.cells #[.slice ar gr.length cr, .slice ac gc.length cc] 27 (0, 0)) := by rw [hw1]; exact heap_alloc_new w _
  have c0 := blk_cell g1 0 _ rfl
  have c1 := blk_cell g1 1 _ rfl
  have hr1 := rdss_chg hr (chg_below hb1) (Nat.le_refl _) (.inr rfl)
  have hc1 := rdss_chg hc (chg_below hb1) (Nat.le_refl _) (.inr rfl)
  have hx1 := rds_chg hx (chg_below hb1) (Nat.le_refl _) (.inr rfl)
  have hy1 := rds_chg hy (chg_below hb1) (Nat.le_refl _) (.inr rfl)
  have HG := Lib.hid (gmBoth_any gr gc x y ar ac ax ay cr cc cx cy w.heap.size w1 hr1 hc1 hx1 hy1 hz1)
  have HW := Lib.hid hw1
  cases eg : ieB gr gc x y 1000000
  · have HF : Hid (ieR gr gc x y = false) := Lib.hid (by simp only [ieR, eg, Bool.false_and])
    rw [eg] at HG
    rw [HF.out]
    clear hw1 hr hc hx hy hr1 hc1 hx1 hy1 eg
    go_enter Try.func33, Try.ntmps33
    go_wp2_with fail
    rw [← HW.out]
    refine HG.out.mono ?_
    rintro e w2 ⟨rfl, hb2⟩
    go_wp2_with fail
    go_returns
    exact ⟨rfl, bnext hb1 hb2⟩
  · rw [eg] at HG
    obtain ⟨e1, e2, e3⟩ := ieB_yes eg
    obtain ⟨k1, k2⟩ := gameB_sizes e1
    have HE := Lib.hid (fun w' (hb : Below w1.heap.size w1 w') => gmEqual_any gr gc _ _ k1 k2 x y (wB_all (hi := 1000000) e2) (wB_len e2) (wB_all (hi := 1000000) e3) (wB_len e3) ar ac ax ay cr cc cx cy w.heap.size w' (rdss_chg hr1 (chg_below hb) hz1 (.inr rfl)) (rdss_chg hc1 (chg_below hb) hz1 (.inr rfl)) (rds_chg hx1 (chg_below hb) hz1 (.inr rfl)) (rds_chg hy1 (chg_below hb) hz1 (.inr rfl)) (by have := hb.size; omega))
    have HF : Hid (ieR gr gc x y = eqB gr gc gr.length (gr.getD 0 []).length x y) := Lib.hid (by simp only [ieR, eg, Bool.true_and])
    rw [← HF.out] at HE
    clear hw1 hr hc hx hy hr1 hc1 hx1 hy1 eg e1 e2 e3 k1 k2 HF
    go_enter Try.func33, Try.ntmps33
    go_wp2_with fail
    rw [← HW.out]
    refine HG.out.mono ?_
    rintro e w2 ⟨rfl, hb2⟩
    have d0 := blk_cell (hp_later g1 hb2) 0 _ rfl
    have d1 := blk_cell (hp_later g1 hb2) 1 _ rfl
    go_wp2_with fail
    refine (HE.out _ hb2).mono ?_
    rintro e w3 ⟨rfl, hb3⟩
    go_wp2_with fail
    go_returns
    exact ⟨rfl, bnext (bnext hb1 hb2) hb3⟩
set_option maxHeartbeats 3200000 in
theorem implIsEquilibrium (gr gc : List (List Int)) (x y : List Int) (ar ac ax ay : Option Addr) (cr cc cx cy : Nat) (w : World) (hr : RdSS w w.heap.size ar gr) (hc : RdSS w w.heap.size ac gc) (hx : RdS w w.heap.size ax x) (hy : RdS w w.heap.size ay y) :
    Calls Try.prog 34 #[.agg #[.slice ar gr.length cr, .slice ac gc.length cc], .slice ax x.length cx, .slice ay y.length cy] w (OutIsEquilibrium w (ieR gr gc x y) (ieB gr gc x y 1000000)) := by
  obtain ⟨w1, hw1⟩ : ∃ w1, w1 = (w.alloc (.cells #[.slice ar gr.length cr, .slice ac gc.length cc] 27)) := ⟨_, rfl⟩
  have hb1 : Below w.heap.size w w1 := by rw [hw1]; exact balloc (Below.refl w.heap.size w) _
  have hz1 := hb1.size
  have g1 : w1.heap[w.heap.size]? = some (.cells #[.slice ar gr.length cr, .slice ac gc.length cc] 27 (0, 0)) := by rw [hw1]; exact heap_alloc_new w _
  have c0 := blk_cell g1 0 _ rfl
  have c1 := blk_cell g1 1 _ rfl
  have hr1 := rdss_chg hr (chg_below hb1) (Nat.le_refl _) (.inr rfl)
  have hc1 := rdss_chg hc (chg_below hb1) (Nat.le_refl _) (.inr rfl)
  have hx1 := rds_chg hx (chg_below hb1) (Nat.le_refl _) (.inr rfl)
  have hy1 := rds_chg hy (chg_below hb1) (Nat.le_refl _) (.inr rfl)
  have HG := Lib.hid (isGame_any gr gc ar ac cr cc w.heap.size w1 hr1 hc1 (by omega))
  have HW := Lib.hid hw1
  cases eg : gameB gr gc
  · have HF : Hid (ieB gr gc x y 1000000 = false ∧ ieR gr gc x y = false) := Lib.hid (by simp only [ieR, ieB, eg, Bool.false_and, and_self])
    rw [eg] at HG
    rw [HF.out.1, HF.out.2]
    clear hw1 hr hc hx hy hr1 hc1 hx1 hy1 eg
    go_enter Try.func34, Try.ntmps34
    go_wp2_with fail
    rw [← HW.out]
    refine HG.out.mono ?_
    rintro e w2 ⟨rfl, hb2⟩
    go_wp2_with fail
    go_returns
    exact ⟨rfl, bnext hb1 hb2⟩
  · rw [eg] at HG
    obtain ⟨k1, k2⟩ := gameB_sizes eg
    have HWX := Lib.hid (fun w' (hb : Below w1.heap.size w1 w') => areRow_any gr _ _ k1 x 1000000 (by omega) ar ax cr cx w.heap.size (.slice ac gc.length cc) w' (rds_chg hx1 (chg_below hb) hz1 (.inr rfl)) (by have := hb.size; omega))
    have HWY := Lib.hid (fun w' (hb : Below w1.heap.size w1 w') => areCol_any gr _ _ k1 y 1000000 (by omega) ar ay cr cy w.heap.size (.slice ac gc.length cc) w' (rdss_chg hr1 (chg_below hb) hz1 (.inr rfl)) (rds_chg hy1 (chg_below hb) hz1 (.inr rfl)) (by have := hb.size; omega))
    cases ew : wB gr.length 1000000 x
    · have HF : Hid (ieB gr gc x y 1000000 = false ∧ ieR gr gc x y = false) := Lib.hid (by simp only [ieR, ieB, eg, ew, Bool.false_and, Bool.and_false, and_self])
      rw [HF.out.1, HF.out.2]
      have HWX' := HWX
      rw [show wB (gr.length : Nat) (1000000 : Nat) x = false from ew] at HWX'
      clear hw1 hr hc hx hy hr1 hc1 hx1 hy1 eg k1 k2 ew HWX
      generalize (gr.getD 0 []).length = n at *
      go_enter Try.func34, Try.ntmps34
      go_wp2_with fail
      rw [← HW.out]
      refine HG.out.mono ?_
      rintro e w2 ⟨rfl, hb2⟩
      have d0 := blk_cell (hp_later g1 hb2) 0 _ rfl
      have d1 := blk_cell (hp_later g1 hb2) 1 _ rfl
      go_wp2_with fail
      refine (HWX'.out _ hb2).mono ?_
      rintro e w3 ⟨rfl, hb3⟩
      go_wp2_with fail
      go_returns
      exact ⟨rfl, bnext (bnext hb1 hb2) hb3⟩
    · cases ey : wB (gr.getD 0 []).length 1000000 y
      · have HF : Hid (ieB gr gc x y 1000000 = false ∧ ieR gr gc x y = false) := Lib.hid (by simp only [ieR, ieB, eg, ew, ey, Bool.false_and, Bool.and_false, and_self])
        rw [HF.out.1, HF.out.2]
        have HWX' := HWX
        rw [show wB (gr.length : Nat) (1000000 : Nat) x = true from ew] at HWX'
        have HWY' := HWY
        rw [show wB ((gr.getD 0 []).length : Nat) (1000000 : Nat) y = false from ey] at HWY'
        clear hw1 hr hc hx hy hr1 hc1 hx1 hy1 eg k1 k2 ew ey HWX HWY
        generalize (gr.getD 0 []).length = n at *
        go_enter Try.func34, Try.ntmps34
        go_wp2_with fail
        rw [← HW.out]
        refine HG.out.mono ?_
        rintro e w2 ⟨rfl, hb2⟩
        have d0 := blk_cell (hp_later g1 hb2) 0 _ rfl
        have d1 := blk_cell (hp_later g1 hb2) 1 _ rfl
        go_wp2_with fail
        refine (HWX'.out _ hb2).mono ?_
        rintro e w3 ⟨rfl, hb3⟩
        have hb3' := bnext hb2 hb3
        have d0 := blk_cell (hp_later g1 hb3') 0 _ rfl
        have d1 := blk_cell (hp_later g1 hb3') 1 _ rfl
        go_wp2_with fail
        refine (HWY'.out _ hb3').mono ?_
        rintro e w4 ⟨rfl, hb4⟩
        go_wp2_with fail
        go_returns
        exact ⟨rfl, bnext (bnext hb1 hb3') hb4⟩
      · have HE := Lib.hid (fun w' (hb : Below w1.heap.size w1 w') => isEq_any gr gc _ _ k1 k2 x y (wB_all (hi := 1000000) ew) (wB_len ew) (wB_all (hi := 1000000) ey) (wB_len ey) ar ac ax ay cr cc cx cy w.heap.size w' (rdss_chg hr1 (chg_below hb) hz1 (.inr rfl)) (rdss_chg hc1 (chg_below hb) hz1 (.inr rfl)) (rds_chg hx1 (chg_below hb) hz1 (.inr rfl)) (rds_chg hy1 (chg_below hb) hz1 (.inr rfl)) (by have := hb.size; omega))
        have HF : Hid (ieB gr gc x y 1000000 = true ∧ ieR gr gc x y = eqB gr gc gr.length (gr.getD 0 []).length x y) := Lib.hid (by simp only [ieR, ieB, eg, ew, ey, Bool.and_self, Bool.true_and, and_self])
        rw [← HF.out.2] at HE
        rw [HF.out.1]
        have HWX' := HWX
        rw [show wB (gr.length : Nat) (1000000 : Nat) x = true from ew] at HWX'
        have HWY' := HWY
        rw [show wB ((gr.getD 0 []).length : Nat) (1000000 : Nat) y = true from ey] at HWY'
        clear hw1 hr hc hx hy hr1 hc1 hx1 hy1 eg k1 k2 ew ey HWX HWY HF
        generalize (gr.getD 0 []).length = n at *
        go_enter Try.func34, Try.ntmps34
        go_wp2_with fail
        rw [← HW.out]
        refine HG.out.mono ?_
        rintro e w2 ⟨rfl, hb2⟩
        have d0 := blk_cell (hp_later g1 hb2) 0 _ rfl
        have d1 := blk_cell (hp_later g1 hb2) 1 _ rfl
        go_wp2_with fail
        refine (HWX'.out _ hb2).mono ?_
        rintro e w3 ⟨rfl, hb3⟩
        have hb3' := bnext hb2 hb3
        have d0 := blk_cell (hp_later g1 hb3') 0 _ rfl
        have d1 := blk_cell (hp_later g1 hb3') 1 _ rfl
        go_wp2_with fail
        refine (HWY'.out _ hb3').mono ?_
        rintro e w4 ⟨rfl, hb4⟩
        have hb4' := bnext hb3' hb4
        have d0 := blk_cell (hp_later g1 hb4') 0 _ rfl
        have d1 := blk_cell (hp_later g1 hb4') 1 _ rfl
        go_wp2_with fail
        refine (HE.out _ hb4').mono ?_
        rintro e w5 ⟨rfl, hb5⟩
        go_wp2_with fail
        go_returns
        exact ⟨rfl, bnext (bnext hb1 hb4') hb5⟩
theorem law_IsEquilibrium (w : World) (gr : List (List Int)) (a_gr : Option Addr) (c_gr : Nat) (gc : List (List Int)) (a_gc : Option Addr) (c_gc : Nat) (h_gr : RdSS w w.heap.size a_gr gr) (h_gc : RdSS w w.heap.size a_gc gc) (x : List Int) (a_x : Option Addr) (c_x : Nat) (h_x : RdS w w.heap.size a_x x) (y : List Int) (a_y : Option Addr) (c_y : Nat) (h_y : RdS w w.heap.size a_y y) :
    Calls Try.prog 8 #[.agg #[.slice a_gr gr.length c_gr, .slice a_gc gc.length c_gc], .slice a_x x.length c_x, .slice a_y y.length c_y] w fun e w' => e = .returned (.bool true) ∧ Below w.heap.size w w' := by
  exact lawOf_IsEquilibrium gr a_gr c_gr gc a_gc c_gc x a_x c_x y a_y c_y w h_gr h_gc h_x h_y _ _ (fun a c a' c' a2 c2 a3 c3 w' _ _ _ _ h h' h2 h3 => specIsEquilibrium gr gc x y a a' a2 a3 c c' c2 c3 w' h h' h2 h3) (fun a c a' c' a2 c2 a3 c3 w' _ _ _ _ h h' h2 h3 => implIsEquilibrium gr gc x y a a' a2 a3 c c' c2 c3 w' h h' h2 h3)
end Go.Proofs.Ytlkgmnmnlfaopaa
