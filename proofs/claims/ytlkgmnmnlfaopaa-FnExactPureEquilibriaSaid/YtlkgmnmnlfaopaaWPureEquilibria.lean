import Derived.LoopN
import Derived.BigRegion
import Derived.BigQuiet
import Derived.RegionTactic
import Derived.Test.YtlkgmnmnlfaopaaVPureEquilibria
import Derived.Test.YtlkgmnmnlfaopaaQ25
namespace Go.Proofs.Ytlkgmnmnlfaopaa
open Go.RowKit
set_option maxRecDepth 4000
set_option maxHeartbeats 6400000 in
theorem implPureEquilibria (gr gc : List (List Int)) (ar ac : Option Addr) (cr cc : Nat) (w : World) (hr : RdSS w w.heap.size ar gr) (hc : RdSS w w.heap.size ac gc) :
    Calls Try.prog 36 #[.agg #[.slice ar gr.length cr, .slice ac gc.length cc]] w (OutPureEquilibria w (if gameB gr gc then peI (peP gr gc gr.length (gr.getD 0 []).length) (gr.getD 0 []).length gr.length else []) (gameB gr gc)) := by
  obtain ⟨w1, hw1⟩ : ∃ w1, w1 = (w.alloc (.cells #[.slice ar gr.length cr, .slice ac gc.length cc] 27)) := ⟨_, rfl⟩
  have hb1 : Below w.heap.size w w1 := by rw [hw1]; exact balloc (Below.refl w.heap.size w) _
  have hz1 := hb1.size
  have g1 : w1.heap[w.heap.size]? = some (.cells #[.slice ar gr.length cr, .slice ac gc.length cc] 27 (0, 0)) := by rw [hw1]; exact heap_alloc_new w _
  have hgl : w.heap.size < w1.heap.size := by rw [hw1]; simp
  have c0 := blk_cell g1 0 _ rfl
  have c1 := blk_cell g1 1 _ rfl
  have hr1 := rdss_chg hr (chg_below hb1) (Nat.le_refl _) (.inr rfl)
  have hc1 := rdss_chg hc (chg_below hb1) (Nat.le_refl _) (.inr rfl)
  have HG := Lib.hid (isGame_any gr gc ar ac cr cc w.heap.size w1 hr1 hc1 hz1)
  have HW := Lib.hid hw1
  cases eg : gameB gr gc
  · rw [eg] at HG
    clear hw1 hr hc hr1 hc1 eg
    go_enter Try.func36, Try.ntmps36
    go_wp2_with fail
    rw [← HW.out]
    refine HG.out.mono ?_
    rintro e w2 ⟨rfl, hb2⟩
    go_wp2_with fail
    go_returns
    exact ⟨_, rfl, oss_nil2 _ _ _, bnext hb1 hb2⟩
  · rw [eg] at HG
    rw [if_pos rfl]
    obtain ⟨k1, k2⟩ := gameB_sizes eg
    obtain ⟨n, hn⟩ : ∃ n, n = (gr.getD 0 []).length := ⟨_, rfl⟩
    rw [← hn] at k1 k2 ⊢
    have hm1 := k1.m1
    have hm3 := k1.m3
    have hn3 := k1.n3
    obtain ⟨-, bR, oR, hxR⟩ := id hr1
    obtain ⟨hae, hbR, ra0, rc0, kR, -⟩ := hxR 0 (by omega)
    subst hae
    rw [Nat.add_zero, ← hn] at kR
    have HKR := Lib.hid (fun w' (hb : Below w1.heap.size w1 w') => (hb.cell (p := ⟨bR, oR, none⟩) (by show bR < _; omega)).trans kR)
    obtain ⟨P, hP⟩ : ∃ P, P = peP gr gc gr.length n := ⟨_, rfl⟩
    rw [← hP]
    have HEQ := Lib.hid (fun i j (hi : i < gr.length) (hj : j < n) a1 c1 a2 c2 w' (hb : Below w1.heap.size w1 w') (h1 : RdS w' w'.heap.size a1 (unitL gr.length i)) (h2 : RdS w' w'.heap.size a2 (unitL n j)) =>
      show Calls Try.prog 73 #[.agg #[.slice (some ⟨bR, oR, none⟩) gr.length cr, .slice ac gc.length cc], .slice a1 (unitL gr.length i).length c1, .slice a2 (unitL n j).length c2] w' fun e w'' => e = .returned (.bool (P i j)) ∧ Below w'.heap.size w' w'' from by
        rw [hP]
        exact isEq_any gr gc gr.length n k1 k2 (unitL gr.length i) (unitL n j) (unitL_all _ _) (unitL_len _ _) (unitL_all _ _) (unitL_len _ _) (some ⟨bR, oR, none⟩) ac a1 a2 cr cc c1 c2 w'.heap.size w' (rdss_mono (rdss_chg hr1 (chg_below hb) hz1 (.inr rfl)) (by have := hb.size; omega)) (rdss_mono (rdss_chg hc1 (chg_below hb) hz1 (.inr rfl)) (by have := hb.size; omega)) h1 h2 (Nat.le_refl _))
    have HRC := Lib.hid (fun w' => rowCount_any gr (some ⟨bR, oR, none⟩) cr (.slice ac gc.length cc) w')
    have HCC := Lib.hid (fun w' (hb : Below w1.heap.size w1 w') => show Calls Try.prog 76 #[.agg #[.slice (some ⟨bR, oR, none⟩) gr.length cr, .slice ac gc.length cc]] w' fun e w'' => e = .returned (.int .i64 n) ∧ Below w'.heap.size w' w'' from by
      rw [hn]
      exact columnCount_any gr (some ⟨bR, oR, none⟩) cr w.heap.size (.slice ac gc.length cc) w' (rdss_chg hr1 (chg_below hb) hz1 (.inr rfl)) (by omega) (by have := hb.size; omega))
    have HUL := Lib.hid (fun i => unitL_len gr.length i)
    have HUN := Lib.hid (fun j => unitL_len n j)
    have HJ0 : Hid (∀ i, peJ P i 0 = []) := Lib.hid (fun _ => rfl)
    have HI0 : Hid (peI P n 0 = []) := Lib.hid rfl
    have HIS : Hid (∀ i, peI P n (i + 1) = peI P n i ++ peJ P i n) := Lib.hid (fun _ => rfl)
    have HJY : Hid (∀ i j, P i j = true → peI P n i ++ peJ P i (j + 1) = (peI P n i ++ peJ P i j) ++ [[(i : Int), (j : Int)]]) := Lib.hid (fun i j h => by simp only [peJ, h, if_true, List.append_assoc])
    have HJN : Hid (∀ i j, P i j = false → peI P n i ++ peJ P i (j + 1) = peI P n i ++ peJ P i j) := Lib.hid (fun i j h => by simp only [peJ, h]; simp)
    have HLL : Hid (∀ i j, i < gr.length → j < n → (peI P n i ++ peJ P i j).length ≤ 100) := Lib.hid (fun i j hi hj => by
      have h1 := peI_len P n i
      have h2 := peJ_len P i j
      have h3 : i * n ≤ 3 * 3 := Nat.mul_le_mul (by omega) (by omega)
      rw [List.length_append]
      omega)
    have hgri : 0 < gr.length := hm1
    clear hw1 hr hc hr1 hc1 eg k1 k2 hxR kR hP hn
    go_enter Try.func36, Try.ntmps36
    go_wp2_with fail
    rw [← HW.out]
    refine HG.out.mono ?_
    rintro e w2 ⟨rfl, hb2⟩
    have d0 := blk_cell (hp_later g1 hb2) 0 _ rfl
    have d1 := blk_cell (hp_later g1 hb2) 1 _ rfl
    have hz2 := hb2.size
    go_wp2_with fail
    refine (HRC.out _).mono ?_
    rintro e w3 ⟨rfl, hb3⟩
    have hBW := bnext hb2 hb3
    have hz3 := hb3.size
    go_wp2_with fail
    go_loopw [4, 12] (fun v4 vi wr => ∃ i : Nat, i ≤ gr.length ∧ vi = .int .i64 i ∧ CellsV wr w2.heap.size v4 (peI P n i) ∧ Below w2.heap.size w3 wr) (fun _ vi _ => gr.length - (intOf vi).toNat)
    case atStart => exact ⟨0, Nat.zero_le _, rfl, by rw [HI0.out]; exact cells_nil _ _, Below.refl _ _⟩
    case round =>
      obtain ⟨i, hi, rfl, hcv, hb⟩ := hrel
      obtain ⟨wq, rfl⟩ : ∃ wq : World, wq = wr := ⟨_, rfl⟩
      have hB := hBW.trans (hb.mono hz2)
      have hzq : w2.heap.size ≤ wq.heap.size := by have := hb.size; omega
      by_cases hlt : i < gr.length
      · have hii : (i : Int) < (gr.length : Int) := by omega
        have d0 := blk_cell (hp_later g1 hB) 0 _ rfl
        have d1 := blk_cell (hp_later g1 hB) 1 _ rfl
        have dR := HKR.out _ hB
        have hiu := HUL.out i
        have HIi := Lib.hid (HIS.out i)
        go_wp2_with fail
        refine (HCC.out _ hB).mono ?_
        rintro e w5 ⟨rfl, hb5⟩
        have hBQ := bnext hB hb5
        have hcv5 := cells_now hcv hb5
        have hz5 := hb5.size
        have HBI := Lib.hid (hb.trans (hb5.mono hzq))
        go_wp2_with fail
        go_loopw [4, 17] (fun v4 vj wr => ∃ j : Nat, j ≤ n ∧ vj = .int .i64 j ∧ CellsV wr w2.heap.size v4 (peI P n i ++ peJ P i j) ∧ Below w2.heap.size w5 wr) (fun _ vj _ => n - (intOf vj).toNat)
        case atStart => exact ⟨0, Nat.zero_le _, rfl, by rw [HJ0.out, List.append_nil]; exact hcv5, Below.refl _ _⟩
        case round =>
          clear hcv hb d0 d1 dR hcv5 hb5
          obtain ⟨j, hj, rfl, hcv, hb⟩ := hrel
          obtain ⟨wm, rfl⟩ : ∃ wm : World, wm = wr := ⟨_, rfl⟩
          have hBm := hBQ.trans (hb.mono hz2)
          have hzm : w2.heap.size ≤ wm.heap.size := by have := hb.size; omega
          by_cases hlj : j < n
          · have hji : (j : Int) < (n : Int) := by omega
            have g2 := hp_later g1 hBm
            have HEij := Lib.hid (HEQ.out i j hlt hlj)
            have HY := Lib.hid (HJY.out i j)
            have HN := Lib.hid (HJN.out i j)
            have hll := HLL.out i j hlt hlj
            have hju := HUN.out j
            have HCV := Lib.hid hcv
            have HB1 := Lib.hid hb
            have hbd : Below wm.heap.size wm wm.drew := (Same.refl wm).drew _
            clear hcv hb
            go_wp2_with fail
            have HSZ : Hid (∀ w', Below wm.heap.size wm w' → Below w1.heap.size w1 w') := Lib.hid (fun w' h => hBm.trans (h.mono (by have := hBm.size; omega)))
            refine wp_region_mix (fun w' => w'.heap[w.heap.size]? = some (.cells #[.slice (some ⟨bR, oR, none⟩) gr.length cr, .slice ac gc.length cc] 27 (0, 0))) [2, 4, 6, 8, 9] [0, 1, 3, 5, 7, 2, 4, 6, 8, 9] (by kernel_rfl) (by kernel_rfl) (fun _ _ d _ _ h => by cases d <;> exact h) (by kernel_rfl) rfl g2 ?_
            refine mix_take 0 _ (.agg #[.slice (some ⟨bR, oR, none⟩) gr.length cr, .slice ac gc.length cc]) rfl rfl rfl (some 20) rfl (fun w' hw' => exec_row _ _ rfl (w.heap.size) rfl #[.slice (some ⟨bR, oR, none⟩) gr.length cr, .slice ac gc.length cc] (blk_load blkG w' _ _ hw' rfl)) ?_
            simp only [Act.put, List.setIfInBounds_toArray, List.set_cons_zero, List.set_cons_succ]
            refine mix_take 1 _ (.agg #[.slice (some ⟨bR, oR, none⟩) gr.length cr, .slice ac gc.length cc]) rfl rfl rfl (some 21) rfl (fun w' hw' => exec_row _ _ rfl (w.heap.size) rfl #[.slice (some ⟨bR, oR, none⟩) gr.length cr, .slice ac gc.length cc] (blk_load blkG w' _ _ hw' rfl)) ?_
            simp only [Act.put, List.setIfInBounds_toArray, List.set_cons_zero, List.set_cons_succ]
            refine mix_take 3 _ ?_ rfl rfl rfl (some 23) rfl (fun w' hw' => ?hv3) ?_
            case hv3 =>
              go_simp
              with_reducible rfl
            simp only [Act.put, List.setIfInBounds_toArray, List.set_cons_zero, List.set_cons_succ]
            refine mix_take 5 _ (.agg #[.slice (some ⟨bR, oR, none⟩) gr.length cr, .slice ac gc.length cc]) rfl rfl rfl (some 25) rfl (fun w' hw' => exec_row _ _ rfl (w.heap.size) rfl #[.slice (some ⟨bR, oR, none⟩) gr.length cr, .slice ac gc.length cc] (blk_load blkG w' _ _ hw' rfl)) ?_
            simp only [Act.put, List.setIfInBounds_toArray, List.set_cons_zero, List.set_cons_succ]
            refine mix_take 7 _ ?_ rfl rfl rfl (some 27) rfl (fun w' hw' => ?hv7) ?_
            case hv7 =>
              go_simp
              with_reducible rfl
            simp only [Act.put, List.setIfInBounds_toArray, List.set_cons_zero, List.set_cons_succ]
            refine mix_call 2 _ rfl rfl rfl 75 #[.agg #[.slice (some ⟨bR, oR, none⟩) gr.length cr, .slice ac gc.length cc]] (some 22) rfl ?hr2 ?_
            case hr2 => go_simp
            refine (HRC.out _).mono ?_
            rintro e u1 ⟨rfl, hu1⟩
            have hu1' : Below wm.heap.size wm u1 := hbd.trans hu1
            refine ⟨_, rfl, hp_later g2 hu1', ?_⟩
            simp only [Act.put, List.setIfInBounds_toArray, List.set_cons_zero, List.set_cons_succ]
            refine mix_call 4 _ rfl rfl rfl 77 #[.int .i64 gr.length, .int .i64 i] (some 24) rfl ?hr4 ?_
            case hr4 => go_simp
            refine (unit_any gr.length i hlt (by omega) _).mono ?_
            rintro e u2 ⟨v1, rfl, o1, hu2⟩
            have hu2' := bnext hu1' hu2
            obtain ⟨a1, c1, b1, rfl, -, r1⟩ := oi_shape o1
            refine ⟨_, rfl, hp_later g2 hu2', ?_⟩
            simp only [Act.put, List.setIfInBounds_toArray, List.set_cons_zero, List.set_cons_succ]
            refine mix_call 6 _ rfl rfl rfl 76 #[.agg #[.slice (some ⟨bR, oR, none⟩) gr.length cr, .slice ac gc.length cc]] (some 26) rfl ?hr6 ?_
            case hr6 => go_simp
            refine (HCC.out _ (HSZ.out _ hu2')).mono ?_
            rintro e u3 ⟨rfl, hu3⟩
            have hu3' := bnext hu2' hu3
            have r1 := rds_mono (rds_later r1 hu3) hu3.size
            refine ⟨_, rfl, hp_later g2 hu3', ?_⟩
            simp only [Act.put, List.setIfInBounds_toArray, List.set_cons_zero, List.set_cons_succ]
            refine mix_call 8 _ rfl rfl rfl 77 #[.int .i64 n, .int .i64 j] (some 28) rfl ?hr8 ?_
            case hr8 => go_simp
            refine (unit_any n j hlj (by omega) _).mono ?_
            rintro e u4 ⟨v2, rfl, o2, hu4⟩
            have hu4' := bnext hu3' hu4
            obtain ⟨a2, c2, b2, rfl, -, r2⟩ := oi_shape o2
            refine ⟨_, rfl, hp_later g2 hu4', ?_⟩
            simp only [Act.put, List.setIfInBounds_toArray, List.set_cons_zero, List.set_cons_succ]
            refine mix_call 9 _ rfl rfl rfl 73 #[.agg #[.slice (some ⟨bR, oR, none⟩) gr.length cr, .slice ac gc.length cc], .slice a1 (unitL gr.length i).length c1, .slice a2 (unitL n j).length c2] (some 29) rfl ?hr9 ?_
            case hr9 => go_simp
            refine (HEij.out _ _ _ _ _ (HSZ.out _ hu4') (rds_mono (rds_later r1 hu4) hu4.size) r2).mono ?_
            rintro e w6 ⟨rfl, hb6'⟩
            have hb6 := bnext hu4' hb6'
            refine ⟨_, rfl, hp_later g2 hb6, ?_⟩
            simp only [Act.put, List.setIfInBounds_toArray, List.set_cons_zero, List.set_cons_succ]
            refine mix_done ?_
            clear o1 o2 r1 r2 hu1 hu1' hu2 hu2' hu3 hu3' hu4 hu4' hb6' hbd g2 HEij HSZ
            have hBf := HB1.out.trans (hb6.mono hzm)
            have hcf := cells_now HCV.out hb6
            have hz6 := hb6.size
            have hzf : w2.heap.size ≤ w6.heap.size := by omega
            cases hp : P i j
            · have hNN := Lib.hid (HN.out hp)
              clear hp hiu hju
              go_wp2_with fail
              go_roundw
              case rel => exact ⟨j + 1, by omega, by go_num, by rw [hNN.out]; exact hcf, hBf⟩
              case measure => simp [intOf]; omega
            · have hYY := Lib.hid (HY.out hp)
              have hui := own_block (w := (w6.alloc (.cells #[.int .i64 i, .int .i64 j] 3))) (base := w6.heap.size) (g := w6.heap.size) (cap := 2) (et := 3) (xs := [(i : Int), (j : Int)]) (Nat.le_refl _) (heap_alloc_new w6 _) rfl rfl (by simp [maxLen])
              have hba := balloc (Below.refl w6.heap.size w6) (.cells #[.int .i64 i, .int .i64 j] 3)
              clear hp hiu hju
              go_wp2_with (at_builtin; refine append_row w2.heap.size _ w6 _ _ _ (peI P n i ++ peJ P i j) [(i : Int), (j : Int)] rfl _ _ rfl rfl rfl (by simp) hcf hba hui rfl hzf (by omega) ?_; intro v' w7 hc7 hb7)
              go_roundw
              case rel => exact ⟨j + 1, by omega, by go_num, by rw [hYY.out]; exact hc7, (hBf.trans (hba.mono hzf)).trans hb7⟩
              case measure => simp [intOf]; omega
          · have hjn : j = n := by omega
            have hjl : ¬ (j : Int) < (n : Int) := by omega
            rw [hjn, ← HIi.out] at hcv
            clear hjn hlj hj
            go_wp2_with fail
            go_roundw
            case rel => exact ⟨i + 1, by omega, by go_num, hcv, (HBI.out.trans hb)⟩
            case measure => simp [intOf]; omega
      · have hin : i = gr.length := by omega
        have hil : ¬ (i : Int) < (gr.length : Int) := by omega
        rw [hin] at hcv
        obtain ⟨va, vm, vc, rfl⟩ := cells_shape hcv
        clear hin hlt hi
        go_wp2_with fail
        go_returns
        exact ⟨_, rfl, oss_low (oss_of hcv) (by omega), bnext hb1 hB⟩
theorem pe_len (gr gc : List (List Int)) : (if gameB gr gc then peI (peP gr gc gr.length (gr.getD 0 []).length) (gr.getD 0 []).length gr.length else []).length ≤ 100000 := by
  cases h : gameB gr gc
  · simp
  · rw [if_pos rfl]
    have h1 := peI_len (peP gr gc gr.length (gr.getD 0 []).length) (gr.getD 0 []).length gr.length
    have h2 := (gameB_sizes h).1.m3
    have h3 := (gameB_sizes h).1.n3
    have h4 : gr.length * (gr.getD 0 []).length ≤ 3 * 3 := Nat.mul_le_mul h2 h3
    omega
theorem pe_row (gr gc : List (List Int)) (k : Nat) : ((if gameB gr gc then peI (peP gr gc gr.length (gr.getD 0 []).length) (gr.getD 0 []).length gr.length else []).getD k []).length ≤ 1000 := by
  cases h : gameB gr gc
  · simp
  · rw [if_pos rfl]
    by_cases hk : k < (peI (peP gr gc gr.length (gr.getD 0 []).length) (gr.getD 0 []).length gr.length).length
    · have := peI_row _ _ _ _ (List.getElem_mem hk)
      rw [getD_at _ k hk]
      omega
    · rw [List.getD_eq_getElem?_getD, List.getElem?_eq_none (by omega)]; simp
theorem law_PureEquilibria (w : World) (gr : List (List Int)) (a_gr : Option Addr) (c_gr : Nat) (gc : List (List Int)) (a_gc : Option Addr) (c_gc : Nat) (h_gr : RdSS w w.heap.size a_gr gr) (h_gc : RdSS w w.heap.size a_gc gc) :
    Calls Try.prog 9 #[.agg #[.slice a_gr gr.length c_gr, .slice a_gc gc.length c_gc]] w fun e w' => e = .returned (.bool true) ∧ Below w.heap.size w w' := by
  exact lawOf_PureEquilibria gr a_gr c_gr gc a_gc c_gc w h_gr h_gc _ (pe_len gr gc) (pe_row gr gc) _ (fun a c a' c' w' _ _ h h' => specPureEquilibria gr gc a a' c c' w' h h') (fun a c a' c' w' _ _ h h' => implPureEquilibria gr gc a a' c c' w' h h')
end Go.Proofs.Ytlkgmnmnlfaopaa
