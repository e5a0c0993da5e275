import Derived.LoopN
import Derived.BigRegion
import Derived.BigQuiet
import Derived.Test.YtlkgmnmnlfaopaaQ22
namespace Go.Proofs.Ytlkgmnmnlfaopaa
open Go.RowKit
set_option maxRecDepth 4000
set_option maxHeartbeats 6400000 in
theorem implPayOf (gr gc : List (List Int)) (x y : List Int) (ar ac ax ay : Option Addr) (cr cc cx cy : Nat) (w : World) (hr : RdSS w w.heap.size ar gr) (hc : RdSS w w.heap.size ac gc) (hx : RdS w w.heap.size ax x) (hy : RdS w w.heap.size ay y) :
    Calls Try.prog 32 #[.agg #[.slice ar gr.length cr, .slice ac gc.length cc], .slice ax x.length cx, .slice ay y.length cy] w (OutPayOf w (if pyB gr gc x y then py1 gr x y else 0) (if pyB gr gc x y then pallK gc x y (gr.getD 0 []).length gr.length else 0) (if pyB gr gc x y then py3 x y else 0) (pyB gr gc x y)) := by
  obtain ⟨w1, hw1⟩ : ∃ w1, w1 = (w.alloc (.cells #[.slice ar gr.length cr, .slice ac gc.length cc] 27)) := ⟨_, rfl⟩
  have hb1 : Below w.heap.size w w1 := by rw [hw1]; exact balloc (Below.refl w.heap.size w) _
  have hz1 := hb1.size
  have g1 : w1.heap[w.heap.size]? = some (.cells #[.slice ar gr.length cr, .slice ac gc.length cc] 27 (0, 0)) := by rw [hw1]; exact heap_alloc_new w _
  have c0 := blk_cell g1 0 _ rfl
  have c1 := blk_cell g1 1 _ rfl
  have hr1 := rdss_chg hr (chg_below hb1) (Nat.le_refl _) (.inr rfl)
  have hc1 := rdss_chg hc (chg_below hb1) (Nat.le_refl _) (.inr rfl)
  have hx1 := rds_chg hx (chg_below hb1) (Nat.le_refl _) (.inr rfl)
  have hy1 := rds_chg hy (chg_below hb1) (Nat.le_refl _) (.inr rfl)
  have HG := Lib.hid (isGame_any gr gc ar ac cr cc w.heap.size w1 hr1 hc1 (by omega))
  have HW := Lib.hid hw1
  cases eg : gameB gr gc
  · have HF : Hid (pyB gr gc x y = false) := Lib.hid (by simp only [pyB, ieB, eg, Bool.false_and])
    rw [eg] at HG
    rw [HF.out]
    clear hw1 hr hc hx hy hr1 hc1 hx1 hy1 eg
    go_enter Try.func32, Try.ntmps32
    go_wp2_with fail
    rw [← HW.out]
    refine HG.out.mono ?_
    rintro e w2 ⟨rfl, hb2⟩
    go_wp2_with fail
    go_returns
    exact ⟨rfl, bnext hb1 hb2⟩
  · rw [eg] at HG
    obtain ⟨k1, k2⟩ := gameB_sizes eg
    have HWX := Lib.hid (fun w' (hb : Below w1.heap.size w1 w') => areRow_any gr _ _ k1 x 1000 (by omega) ar ax cr cx w.heap.size (.slice ac gc.length cc) w' (rds_chg hx1 (chg_below hb) hz1 (.inr rfl)) (by have := hb.size; omega))
    have HWY := Lib.hid (fun w' (hb : Below w1.heap.size w1 w') => areCol_any gr _ _ k1 y 1000 (by omega) ar ay cr cy w.heap.size (.slice ac gc.length cc) w' (rdss_chg hr1 (chg_below hb) hz1 (.inr rfl)) (rds_chg hy1 (chg_below hb) hz1 (.inr rfl)) (by have := hb.size; omega))
    cases ew : wB gr.length 1000 x
    · have HF : Hid (pyB gr gc x y = false) := Lib.hid (by simp only [pyB, ieB, eg, ew, Bool.false_and, Bool.and_false])
      rw [HF.out]
      have HWX' := HWX
      rw [show wB (gr.length : Nat) (1000 : Nat) x = false from ew] at HWX'
      clear hw1 hr hc hx hy hr1 hc1 hx1 hy1 eg k1 k2 ew HWX
      generalize (gr.getD 0 []).length = n at *
      go_enter Try.func32, Try.ntmps32
      go_wp2_with fail
      rw [← HW.out]
      refine HG.out.mono ?_
      rintro e w2 ⟨rfl, hb2⟩
      have d0 := blk_cell (hp_later g1 hb2) 0 _ rfl
      have d1 := blk_cell (hp_later g1 hb2) 1 _ rfl
      go_wp2_with fail
      refine (HWX'.out _ hb2).mono ?_
      rintro e w3 ⟨rfl, hb3⟩
      go_wp2_with fail
      go_returns
      exact ⟨rfl, bnext (bnext hb1 hb2) hb3⟩
    · have HWX' := HWX
      rw [show wB (gr.length : Nat) (1000 : Nat) x = true from ew] at HWX'
      cases ey : wB (gr.getD 0 []).length 1000 y
      · have HF : Hid (pyB gr gc x y = false) := Lib.hid (by simp only [pyB, ieB, ey, Bool.and_false])
        rw [HF.out]
        have HWY' := HWY
        rw [show wB ((gr.getD 0 []).length : Nat) (1000 : Nat) y = false from ey] at HWY'
        clear hw1 hr hc hx hy hr1 hc1 hx1 hy1 eg k1 k2 ew ey HWX HWY
        generalize (gr.getD 0 []).length = n at *
        go_enter Try.func32, Try.ntmps32
        go_wp2_with fail
        rw [← HW.out]
        refine HG.out.mono ?_
        rintro e w2 ⟨rfl, hb2⟩
        have d0 := blk_cell (hp_later g1 hb2) 0 _ rfl
        have d1 := blk_cell (hp_later g1 hb2) 1 _ rfl
        go_wp2_with fail
        refine (HWX'.out _ hb2).mono ?_
        rintro e w3 ⟨rfl, hb3⟩
        have hb3' := bnext hb2 hb3
        have d0 := blk_cell (hp_later g1 hb3') 0 _ rfl
        have d1 := blk_cell (hp_later g1 hb3') 1 _ rfl
        go_wp2_with fail
        refine (HWY'.out _ hb3').mono ?_
        rintro e w4 ⟨rfl, hb4⟩
        go_wp2_with fail
        go_returns
        exact ⟨rfl, bnext (bnext hb1 hb3') hb4⟩
      · have HF : Hid (pyB gr gc x y = true) := Lib.hid (by simp only [pyB, ieB, eg, ew, ey, Bool.and_self])
        rw [HF.out, if_pos rfl, if_pos rfl, if_pos rfl]
        have HWY' := HWY
        rw [show wB ((gr.getD 0 []).length : Nat) (1000 : Nat) y = true from ey] at HWY'
        have hxx : allB 0 ((1000 : Nat) : Int) x = true := wB_all ew
        have hyy : allB 0 ((1000 : Nat) : Int) y = true := wB_all ey
        have hxl := wB_len ew
        have hyl := wB_len ey
        have hxa : ∀ j, (x.getD j 0).natAbs ≤ 1000 := wt_abs hxx
        have hya : ∀ j, (y.getD j 0).natAbs ≤ 1000 := wt_abs hyy
        have hm3 := k1.m3
        have hn3 := k1.n3
        have hp1 : ∀ j, ((payL gr y (gr.getD 0 []).length).getD j 0).natAbs ≤ 27000 := getD_abs (fun j hj => by
          rw [payL_len] at hj
          rw [payL_at _ _ _ _ hj]
          have := dotK_bd (gr.getD j []) y 9 1000 (ok_abs' k1 j) hya (gr.getD 0 []).length
          omega)
        have hp2 : ∀ j, ((payL (trL gc gr.length (gr.getD 0 []).length) x gr.length).getD j 0).natAbs ≤ 27000 := getD_abs (fun j hj => by
          rw [payL_len] at hj
          rw [payL_at _ _ _ _ hj]
          have := dotK_bd ((trL gc gr.length (gr.getD 0 []).length).getD j []) x 9 1000 (ok_abs' (trL_ok k2) j) hxa gr.length
          omega)
        have hl1 : (payL gr y (gr.getD 0 []).length).length = gr.length := payL_len _ _ _
        have hl2 : (payL (trL gc gr.length (gr.getD 0 []).length) x gr.length).length = (gr.getD 0 []).length := by rw [payL_len]; exact (trL_ok k2).rows
        have HR1 := Lib.hid (fun w' (hb : Below w1.heap.size w1 w') => rowPays_any gr _ _ k1 y 1000 hyy (by omega) hyl ar ay cr cy w.heap.size (.slice ac gc.length cc) w' (rdss_chg hr1 (chg_below hb) hz1 (.inr rfl)) (rds_chg hy1 (chg_below hb) hz1 (.inr rfl)) (by have := hb.size; omega))
        have HSW := Lib.hid (fun w' (hb : Below w1.heap.size w1 w') => swapped_any gr gc _ _ k1 k2 ar ac cr cc w.heap.size w' (rdss_chg hr1 (chg_below hb) hz1 (.inr rfl)) (rdss_chg hc1 (chg_below hb) hz1 (.inr rfl)) (by have := hb.size; omega))
        have HR2 := Lib.hid (fun w' (hb : Below w1.heap.size w1 w') a1 c1 v2 (h1 : RdSS w' w'.heap.size a1 (trL gc gr.length (gr.getD 0 []).length)) => rowPays_any (trL gc gr.length (gr.getD 0 []).length) _ _ (trL_ok k2) x 1000 hxx (by omega) hxl a1 ax c1 cx w'.heap.size v2 w' h1 (rds_mono (rds_chg hx1 (chg_below hb) hz1 (.inr rfl)) (by have := hb.size; omega)) (Nat.le_refl _))
        have HD1 := Lib.hid (fun w' (hb : Below w1.heap.size w1 w') a1 c1 (h1 : RdS w' w'.heap.size a1 (payL gr y (gr.getD 0 []).length)) => sop_any x (payL gr y (gr.getD 0 []).length) 1000 27000 hxa hp1 (by omega) (by omega) (by omega) ax a1 cx c1 w.heap.size w'.heap.size w' (rds_chg hx1 (chg_below hb) hz1 (.inr rfl)) h1)
        have HD2 := Lib.hid (fun w' (hb : Below w1.heap.size w1 w') a1 c1 (h1 : RdS w' w'.heap.size a1 (payL (trL gc gr.length (gr.getD 0 []).length) x gr.length)) => sop_any y (payL (trL gc gr.length (gr.getD 0 []).length) x gr.length) 1000 27000 hya hp2 (by omega) (by omega) (by omega) ay a1 cy c1 w.heap.size w'.heap.size w' (rds_chg hy1 (chg_below hb) hz1 (.inr rfl)) h1)
        have e1 : dotK x (payL gr y (gr.getD 0 []).length) x.length = py1 gr x y := by rw [hxl, ← pall_dot _ _ _ _ _ (Nat.le_refl _)]; rfl
        have e2 : dotK y (payL (trL gc gr.length (gr.getD 0 []).length) x gr.length) y.length = pallK gc x y (gr.getD 0 []).length gr.length := by rw [hyl, pall_turned]
        rw [e1] at HD1
        rw [e2] at HD2
        have HS1 := Lib.hid (fun w' (hb : Below w1.heap.size w1 w') => total_any x 1000 (by omega) hxa (by omega) ax cx w.heap.size w' (rds_chg hx1 (chg_below hb) hz1 (.inr rfl)))
        have HS2 := Lib.hid (fun w' (hb : Below w1.heap.size w1 w') => total_any y 1000 (by omega) hya (by omega) ay cy w.heap.size w' (rds_chg hy1 (chg_below hb) hz1 (.inr rfl)))
        have hsx := sumK_bd x 1000 hxa x.length
        have hsy := sumK_bd y 1000 hya y.length
        have hsm : (sumK x x.length * sumK y y.length).natAbs ≤ 9000000 := by
          have h1 : (sumK x x.length).natAbs ≤ 3000 := by omega
          have h2 : (sumK y y.length).natAbs ≤ 3000 := by omega
          have := mul_bd h1 h2
          omega
        have e9 : wrap64 (sumK x x.length * sumK y y.length) = sumK x x.length * sumK y y.length := IntWalk.wrap64_in _ ⟨by omega, by omega⟩
        have e8 : IntKind.i64.wrap (sumK x x.length * sumK y y.length) = sumK x x.length * sumK y y.length := IntWalk.i64_in _ ⟨by omega, by omega⟩
        have HP3 : Hid (py3 x y = sumK x x.length * sumK y y.length) := Lib.hid rfl
        rw [HP3.out]
        clear hw1 hr hc hx hy hr1 hc1 hx1 hy1 eg k1 k2 ew ey HWX HWY hxx hyy hxl hyl hxa hya hp1 hp2 hl1 hl2 e1 e2 hsx hsy hsm HF HP3 hm3 hn3
        generalize sumK x x.length = sx at *
        generalize sumK y y.length = sy at *
        generalize py1 gr x y = r1 at *
        generalize pallK gc x y (gr.getD 0 []).length gr.length = r2 at *
        generalize payL gr y (gr.getD 0 []).length = P1 at *
        generalize payL (trL gc gr.length (gr.getD 0 []).length) x gr.length = P2 at *
        generalize trL gr gr.length (gr.getD 0 []).length = T1 at *
        generalize trL gc gr.length (gr.getD 0 []).length = T2 at *
        generalize (gr.getD 0 []).length = n at *
        go_enter Try.func32, Try.ntmps32
        go_wp2_with fail
        rw [← HW.out]
        refine HG.out.mono ?_
        rintro e w2 ⟨rfl, hb2⟩
        have d0 := blk_cell (hp_later g1 hb2) 0 _ rfl
        have d1 := blk_cell (hp_later g1 hb2) 1 _ rfl
        go_wp2_with fail
        refine (HWX'.out _ hb2).mono ?_
        rintro e w3 ⟨rfl, hb3⟩
        have hB := bnext hb2 hb3
        have d0 := blk_cell (hp_later g1 hB) 0 _ rfl
        have d1 := blk_cell (hp_later g1 hB) 1 _ rfl
        clear hb2 hb3
        go_wp2_with fail
        refine (HWY'.out _ hB).mono ?_
        rintro e w4 ⟨rfl, hb4⟩
        replace hB := bnext hB hb4
        have d0 := blk_cell (hp_later g1 hB) 0 _ rfl
        have d1 := blk_cell (hp_later g1 hB) 1 _ rfl
        clear hb4
        go_wp2_with fail
        refine (HR1.out _ hB).mono ?_
        rintro e w5 ⟨v, rfl, ho, hb5⟩
        obtain ⟨pa, pc, pb, rfl, -, hrs⟩ := oi_shape ho
        replace hB := bnext hB hb5
        have d0 := blk_cell (hp_later g1 hB) 0 _ rfl
        have d1 := blk_cell (hp_later g1 hB) 1 _ rfl
        clear hb5 ho
        go_wp2_with fail
        refine (HD1.out _ hB _ _ hrs).mono ?_
        rintro e w' ⟨rfl, rfl⟩
        clear hrs
        go_wp2_with fail
        refine (HSW.out _ hB).mono ?_
        rintro e w6 ⟨v1, v2, rfl, og, hb6⟩
        obtain ⟨a1, c1, a2, c2, rfl, rfl, r1, -⟩ := og_shape og
        replace hB := bnext hB hb6
        clear hb6 og
        go_wp2_with fail
        refine (HR2.out _ hB _ _ _ r1).mono ?_
        rintro e w7 ⟨v, rfl, ho, hb7⟩
        obtain ⟨qa, qc, qb, rfl, -, hrs⟩ := oi_shape ho
        replace hB := bnext hB hb7
        clear hb7 ho
        go_wp2_with fail
        refine (HD2.out _ hB _ _ hrs).mono ?_
        rintro e w' ⟨rfl, rfl⟩
        go_wp2_with fail
        refine (HS1.out _ hB).mono ?_
        rintro e w' ⟨rfl, rfl⟩
        go_wp2_with fail
        refine (HS2.out _ hB).mono ?_
        rintro e w' ⟨rfl, rfl⟩
        go_wp2_with fail
        go_returns
        exact ⟨rfl, bnext hb1 hB⟩
theorem law_PayOf (w : World) (gr : List (List Int)) (a_gr : Option Addr) (c_gr : Nat) (gc : List (List Int)) (a_gc : Option Addr) (c_gc : Nat) (h_gr : RdSS w w.heap.size a_gr gr) (h_gc : RdSS w w.heap.size a_gc gc) (x : List Int) (a_x : Option Addr) (c_x : Nat) (h_x : RdS w w.heap.size a_x x) (y : List Int) (a_y : Option Addr) (c_y : Nat) (h_y : RdS w w.heap.size a_y y) :
    Calls Try.prog 7 #[.agg #[.slice a_gr gr.length c_gr, .slice a_gc gc.length c_gc], .slice a_x x.length c_x, .slice a_y y.length c_y] w fun e w' => e = .returned (.bool true) ∧ Below w.heap.size w w' := by
  exact lawOf_PayOf gr a_gr c_gr gc a_gc c_gc x a_x c_x y a_y c_y w h_gr h_gc h_x h_y _ _ _ _ (fun a c a' c' a2 c2 a3 c3 w' _ _ _ _ h h' h2 h3 => specPayOf gr gc x y a a' a2 a3 c c' c2 c3 w' h h' h2 h3) (fun a c a' c' a2 c2 a3 c3 w' _ _ _ _ h h' h2 h3 => implPayOf gr gc x y a a' a2 a3 c c' c2 c3 w' h h' h2 h3)
end Go.Proofs.Ytlkgmnmnlfaopaa
