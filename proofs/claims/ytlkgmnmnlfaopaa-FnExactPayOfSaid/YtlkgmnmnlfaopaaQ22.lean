import Derived.LoopN
import Derived.BigRegion
import Derived.BigQuiet
import Derived.Test.YtlkgmnmnlfaopaaVPayOf
import Derived.Test.YtlkgmnmnlfaopaaQ20
import Derived.Test.YtlkgmnmnlfaopaaQ21
namespace Go.Proofs.Ytlkgmnmnlfaopaa
open Go.RowKit
set_option maxRecDepth 4000
theorem wB_1000 (n : Int) (x : List Int) : wB n 1000 x = (wB n 1000000 x && allB 0 1000 x) := by
  cases h : allB 0 1000 x
  · simp only [wB, h, Bool.and_false, Bool.false_and]
  · have h2 : allB 0 1000000 x = true := allB_yes _ _ _ (fun k hk => by have := allB_at h k hk; omega)
    simp only [wB, h, h2, Bool.and_true]
def pyB (gr gc : List (List Int)) (x y : List Int) : Bool := ieB gr gc x y 1000
def py1 (gr : List (List Int)) (x y : List Int) : Int := pallK gr x y (gr.getD 0 []).length gr.length
def py3 (x y : List Int) : Int := sumK x x.length * sumK y y.length
theorem pyB_split (gr gc : List (List Int)) (x y : List Int) : pyB gr gc x y = (ieB gr gc x y 1000000 && allB 0 1000 x && allB 0 1000 y) := by
  simp only [pyB, ieB, wB_1000]
  cases gameB gr gc <;> cases wB gr.length 1000000 x <;> cases wB (gr.getD 0 []).length 1000000 y <;> cases allB 0 1000 x <;> cases allB 0 1000 y <;> rfl
theorem pin_bd (x : Int) (r y : List Int) (hx : x.natAbs ≤ 1000) (hr : ∀ j, (r.getD j 0).natAbs ≤ 9) (hy : ∀ j, (y.getD j 0).natAbs ≤ 1000) (j : Nat) : (pinK x r y j).natAbs ≤ 9000000 * j := by
  rw [pin_dot]
  have h1 := dotK_bd r y 9 1000 hr hy j
  have h2 := mul_bd hx h1
  omega
theorem pall_bd (rs : List (List Int)) (x y : List Int) (n : Nat) (hn : n ≤ 3) (hx : ∀ j, (x.getD j 0).natAbs ≤ 1000) (hr : ∀ k j, ((rs.getD k []).getD j 0).natAbs ≤ 9) (hy : ∀ j, (y.getD j 0).natAbs ≤ 1000) : ∀ i, (pallK rs x y n i).natAbs ≤ 27000000 * i
  | 0 => by simp [pallK]
  | i + 1 => by
    have h1 := pall_bd rs x y n hn hx hr hy i
    have h2 := pin_bd (x.getD i 0) (rs.getD i []) y (hx i) (hr i) hy n
    have h3 := Int.natAbs_add_le (pallK rs x y n i) (pinK (x.getD i 0) (rs.getD i []) y n)
    simp only [pallK]
    omega
theorem ok_abs' {rs : List (List Int)} {m n : Nat} (h : GOk rs m n) (k j : Nat) : ((rs.getD k []).getD j 0).natAbs ≤ 9 := by
  by_cases hk : k < m
  · exact ok_abs h k hk j
  · rw [List.getD_eq_getElem?_getD (l := rs), List.getElem?_eq_none (by rw [h.rows]; omega)]; simp
set_option maxHeartbeats 6400000 in
theorem specPayOf (gr gc : List (List Int)) (x y : List Int) (ar ac ax ay : Option Addr) (cr cc cx cy : Nat) (w : World) (hr : RdSS w w.heap.size ar gr) (hc : RdSS w w.heap.size ac gc) (hx : RdS w w.heap.size ax x) (hy : RdS w w.heap.size ay y) :
    Calls Try.prog 31 #[.agg #[.slice ar gr.length cr, .slice ac gc.length cc], .slice ax x.length cx, .slice ay y.length cy] w (OutPayOf w (if pyB gr gc x y then py1 gr x y else 0) (if pyB gr gc x y then pallK gc x y (gr.getD 0 []).length gr.length else 0) (if pyB gr gc x y then py3 x y else 0) (pyB gr gc x y)) := by
  obtain ⟨w1, hw1⟩ : ∃ w1, w1 = (w.alloc (.cells #[.slice ar gr.length cr, .slice ac gc.length cc] 27)) := ⟨_, rfl⟩
  have hb1 : Below w.heap.size w w1 := by rw [hw1]; exact balloc (Below.refl w.heap.size w) _
  have hz1 := hb1.size
  have g1 : w1.heap[w.heap.size]? = some (.cells #[.slice ar gr.length cr, .slice ac gc.length cc] 27 (0, 0)) := by rw [hw1]; exact heap_alloc_new w _
  have c0 := blk_cell g1 0 _ rfl
  have c1 := blk_cell g1 1 _ rfl
  have hr1 := rdss_chg hr (chg_below hb1) (Nat.le_refl _) (.inr rfl)
  have hc1 := rdss_chg hc (chg_below hb1) (Nat.le_refl _) (.inr rfl)
  have hx1 := rds_chg hx (chg_below hb1) (Nat.le_refl _) (.inr rfl)
  have hy1 := rds_chg hy (chg_below hb1) (Nat.le_refl _) (.inr rfl)
  have HG := Lib.hid (gmBoth_any gr gc x y ar ac ax ay cr cc cx cy w.heap.size w1 hr1 hc1 hx1 hy1 hz1)
  have HW := Lib.hid hw1
  have HAX := Lib.hid (fun w' (hb : Below w1.heap.size w1 w') => l1All_rd x ax cx w.heap.size 0 1000 w' (rds_chg hx1 (chg_below hb) hz1 (.inr rfl)))
  have HAY := Lib.hid (fun w' (hb : Below w1.heap.size w1 w') => l1All_rd y ay cy w.heap.size 0 1000 w' (rds_chg hy1 (chg_below hb) hz1 (.inr rfl)))
  have HSP := Lib.hid (pyB_split gr gc x y)
  cases eg : ieB gr gc x y 1000000
  · have HF : Hid (pyB gr gc x y = false) := Lib.hid (by rw [HSP.out, eg]; rfl)
    rw [eg] at HG
    rw [HF.out]
    clear hw1 hr hc hx hy hr1 hc1 hx1 hy1 eg HSP HAX HAY
    go_enter Try.func31, Try.ntmps31
    go_wp2_with fail
    rw [← HW.out]
    refine HG.out.mono ?_
    rintro e w2 ⟨rfl, hb2⟩
    go_wp2_with fail
    go_returns
    exact ⟨rfl, bnext hb1 hb2⟩
  · rw [eg] at HG
    cases ex : allB 0 1000 x
    · have HF : Hid (pyB gr gc x y = false) := Lib.hid (by rw [HSP.out, ex, Bool.and_false, Bool.false_and])
      rw [ex] at HAX
      rw [HF.out]
      clear hw1 hr hc hx hy hr1 hc1 hx1 hy1 eg ex HSP HAY
      go_enter Try.func31, Try.ntmps31
      go_wp2_with fail
      rw [← HW.out]
      refine HG.out.mono ?_
      rintro e w2 ⟨rfl, hb2⟩
      go_wp2_with fail
      refine (HAX.out _ hb2).mono ?_
      rintro e w3 ⟨rfl, rfl⟩
      go_wp2_with fail
      go_returns
      exact ⟨rfl, bnext hb1 hb2⟩
    · cases ey : allB 0 1000 y
      · have HF : Hid (pyB gr gc x y = false) := Lib.hid (by rw [HSP.out, ey, Bool.and_false])
        rw [ex] at HAX
        rw [ey] at HAY
        rw [HF.out]
        clear hw1 hr hc hx hy hr1 hc1 hx1 hy1 eg ex ey HSP
        go_enter Try.func31, Try.ntmps31
        go_wp2_with fail
        rw [← HW.out]
        refine HG.out.mono ?_
        rintro e w2 ⟨rfl, hb2⟩
        go_wp2_with fail
        refine (HAX.out _ hb2).mono ?_
        rintro e w3 ⟨rfl, rfl⟩
        go_wp2_with fail
        refine (HAY.out _ hb2).mono ?_
        rintro e w3 ⟨rfl, rfl⟩
        go_wp2_with fail
        go_returns
        exact ⟨rfl, bnext hb1 hb2⟩
      · have HF : Hid (pyB gr gc x y = true) := Lib.hid (by rw [HSP.out, eg, ex, ey]; rfl)
        rw [ex] at HAX
        rw [ey] at HAY
        rw [HF.out, if_pos rfl, if_pos rfl, if_pos rfl]
        obtain ⟨e1, e2, e3⟩ := ieB_yes eg
        obtain ⟨k1, k2⟩ := gameB_sizes e1
        have hxa : ∀ j, (x.getD j 0).natAbs ≤ 1000 := wt_abs (hi := 1000) ex
        have hya : ∀ j, (y.getD j 0).natAbs ≤ 1000 := wt_abs (hi := 1000) ey
        obtain ⟨n, hn⟩ : ∃ n, n = (gr.getD 0 []).length := ⟨_, rfl⟩
        rw [← hn] at k1 k2
        have hxl := wB_len e2
        have hyl := wB_len e3
        rw [← hn] at hyl
        have hn3 := k1.n3
        have hm3 := k1.m3
        have hcl : gc.length = gr.length := k2.rows
        have HP1 := Lib.hid (pall_bd gr x y n hn3 hxa (ok_abs' k1) hya)
        have HP2 := Lib.hid (pall_bd gc x y n hn3 hxa (ok_abs' k2) hya)
        have HI1 := Lib.hid (fun k j => pin_bd (x.getD k 0) (gr.getD k []) y (hxa k) (ok_abs' k1 k) hya j)
        have HI2 := Lib.hid (fun k j => pin_bd (x.getD k 0) (gc.getD k []) y (hxa k) (ok_abs' k2 k) hya j)
        have HXA := Lib.hid hxa
        have HYA := Lib.hid hya
        have HRA := Lib.hid (ok_abs' k1)
        have HCA := Lib.hid (ok_abs' k2)
        have HS1 := Lib.hid (fun w' (hb : Below w1.heap.size w1 w') => gmSum_any x 1000 (by omega) hxa (by omega) ax cx w.heap.size w' (rds_chg hx1 (chg_below hb) hz1 (.inr rfl)))
        have HS2 := Lib.hid (fun w' (hb : Below w1.heap.size w1 w') => gmSum_any y 1000 (by omega) hya (by omega) ay cy w.heap.size w' (rds_chg hy1 (chg_below hb) hz1 (.inr rfl)))
        have hsx := sumK_bd x 1000 hxa x.length
        have hsy := sumK_bd y 1000 hya y.length
        have hsm : (sumK x x.length * sumK y y.length).natAbs ≤ 9000000 := by
          have h1 : (sumK x x.length).natAbs ≤ 3000 := by omega
          have h2 : (sumK y y.length).natAbs ≤ 3000 := by omega
          have := mul_bd h1 h2
          omega
        have e9 : wrap64 (sumK x x.length * sumK y y.length) = sumK x x.length * sumK y y.length := IntWalk.wrap64_in _ ⟨by omega, by omega⟩
        have e8 : IntKind.i64.wrap (sumK x x.length * sumK y y.length) = sumK x x.length * sumK y y.length := IntWalk.i64_in _ ⟨by omega, by omega⟩
        have HLR := Lib.hid (fun k (hk : k < gr.length) => k1.len k hk)
        have HLC := Lib.hid (fun k (hk : k < gr.length) => k2.len k hk)
        have HPS1 : Hid (∀ i, pallK gr x y n (i + 1) = pallK gr x y n i + pinK (x.getD i 0) (gr.getD i []) y n) := Lib.hid (fun _ => rfl)
        have HPS2 : Hid (∀ i, pallK gc x y n (i + 1) = pallK gc x y n i + pinK (x.getD i 0) (gc.getD i []) y n) := Lib.hid (fun _ => rfl)
        have HPI1 : Hid (∀ i j, pinK (x.getD i 0) (gr.getD i []) y (j + 1) = pinK (x.getD i 0) (gr.getD i []) y j + x.getD i 0 * y.getD j 0 * (gr.getD i []).getD j 0) := Lib.hid (fun _ _ => rfl)
        have HPI2 : Hid (∀ i j, pinK (x.getD i 0) (gc.getD i []) y (j + 1) = pinK (x.getD i 0) (gc.getD i []) y j + x.getD i 0 * y.getD j 0 * (gc.getD i []).getD j 0) := Lib.hid (fun _ _ => rfl)
        have HZ : Hid (pallK gr x y n 0 = 0 ∧ pallK gc x y n 0 = 0) := Lib.hid ⟨rfl, rfl⟩
        have HZI : Hid (∀ i, pinK (x.getD i 0) (gr.getD i []) y 0 = 0 ∧ pinK (x.getD i 0) (gc.getD i []) y 0 = 0) := Lib.hid (fun _ => ⟨rfl, rfl⟩)
        have HO : Hid (OutPayOf w (py1 gr x y) (pallK gc x y (gr.getD 0 []).length gr.length) (py3 x y) true = OutPayOf w (pallK gr x y n x.length) (pallK gc x y n x.length) (sumK x x.length * sumK y y.length) true) := Lib.hid (by rw [hn]; unfold py1 py3; rw [hxl])
        rw [HO.out]
        have HRR := Lib.hid hr1
        have HCC := Lib.hid hc1
        have HXX := Lib.hid hx1
        have HYY := Lib.hid hy1
        have hxli : (x.length : Int) = (gr.length : Int) := by omega
        have hyli : (y.length : Int) = (n : Int) := by omega
        clear hw1 hr hc hx hy hr1 hc1 hx1 hy1 eg ex ey e1 e2 e3 k1 k2 hxa hya hsx hsy hsm HSP HO hn HF
        generalize sumK x x.length = sx at *
        generalize sumK y y.length = sy at *
        subst hyl
        have HXL := Lib.hid hxl
        have HCL := Lib.hid hcl
        rw [← HXL.out] at HLR HLC hm3
        clear hxl hcl hxli hyli
        go_enter Try.func31, Try.ntmps31
        go_wp2_with fail
        rw [← HW.out]
        refine HG.out.mono ?_
        rintro e w2 ⟨rfl, hb2⟩
        go_wp2_with fail
        refine (HAX.out _ hb2).mono ?_
        rintro e w3 ⟨rfl, rfl⟩
        go_wp2_with fail
        refine (HAY.out _ hb2).mono ?_
        rintro e w3 ⟨rfl, rfl⟩
        go_wp2_with fail
        go_loop [10, 11, 33] (fun v10 v11 v33 => ∃ i : Nat, i ≤ x.length ∧ v33 = .int .i64 i ∧ v10 = .int .i64 (pallK gr x y y.length i) ∧ v11 = .int .i64 (pallK gc x y y.length i)) (fun _ _ v33 => x.length - (intOf v33).toNat)
        case atStart => exact ⟨0, Nat.zero_le _, rfl, by rw [HZ.out.1], by rw [HZ.out.2]⟩
        case round =>
          obtain ⟨i, hi, rfl, rfl, rfl⟩ := hrel
          by_cases hlt : i < x.length
          · have hii : (i : Int) < (x.length : Int) := by omega
            obtain ⟨xb, xo, hxd, -⟩ := rds_chg HXX.out (chg_below hb2) hz1 (.inr rfl)
            obtain ⟨hxa, cx0⟩ := hxd.2 i hlt
            subst hxa
            have q1 := HP1.out i
            have q2 := HP2.out i
            have HP1i := Lib.hid (HPS1.out i)
            have HP2i := Lib.hid (HPS2.out i)
            have HI1i := Lib.hid (HI1.out i)
            have HI2i := Lib.hid (HI2.out i)
            have HJ1 := Lib.hid (HPI1.out i)
            have HJ2 := Lib.hid (HPI2.out i)
            have HZi := Lib.hid (HZI.out i)
            have q3 := HXA.out i
            have HRi := Lib.hid (HRA.out i)
            have HCi := Lib.hid (HCA.out i)
            have hg0 : i < gr.length := by rw [← HXL.out]; exact hlt
            obtain ⟨-, rb, ro, hrr⟩ := rdss_chg HRR.out (chg_below hb2) hz1 (.inr rfl)
            obtain ⟨-, cb, co, hcr⟩ := rdss_chg HCC.out (chg_below hb2) hz1 (.inr rfl)
            obtain ⟨hae, -, ra, rc, kr, rb2, ro2, hrd, -⟩ := hrr i hg0
            obtain ⟨hce, -, ca, cc2, kc, cb2, co2, hcd, -⟩ := hcr i (by rw [HCL.out]; exact hg0)
            rw [HLR.out i hlt] at kr
            rw [HLC.out i hlt] at kc
            have HRD := Lib.hid hrd.2
            have HCD := Lib.hid hcd.2
            have HLRi := HLR.out i hlt
            have HLCi := HLC.out i hlt
            have HLR' := Lib.hid HLRi
            have HLC' := Lib.hid HLCi
            have d0 := blk_cell (hp_later g1 hb2) 0 _ rfl
            have d1 := blk_cell (hp_later g1 hb2) 1 _ rfl
            have hgi : (i : Int) < (gr.length : Int) := by omega
            have hgj : (i : Int) < (gc.length : Int) := by rw [HCL.out]; omega
            subst hae
            subst hce
            clear hxd hrr hcr hrd hcd HLRi HLCi hg0
            generalize gr.getD i [] = r at *
            generalize gc.getD i [] = c at *
            generalize x.getD i 0 = u at *
            generalize pallK gr x y y.length i = p1 at *
            generalize pallK gc x y y.length i = p2 at *
            go_wp2_with fail
            go_loop [10, 11, 40] (fun v10 v11 v40 => ∃ j : Nat, j ≤ y.length ∧ v40 = .int .i64 j ∧ v10 = .int .i64 (p1 + pinK u r y j) ∧ v11 = .int .i64 (p2 + pinK u c y j)) (fun _ _ v40 => y.length - (intOf v40).toNat)
            case atStart => exact ⟨0, Nat.zero_le _, rfl, by rw [HZi.out.1, Int.add_zero], by rw [HZi.out.2, Int.add_zero]⟩
            case round =>
              obtain ⟨j, hj, rfl, rfl, rfl⟩ := hrel
              by_cases hlj : j < y.length
              · have hji : (j : Int) < (y.length : Int) := by omega
                obtain ⟨yb, yo, hyd, -⟩ := rds_chg HYY.out (chg_below hb2) hz1 (.inr rfl)
                obtain ⟨hya, cy0⟩ := hyd.2 j hlj
                subst hya
                obtain ⟨hra, cr0⟩ := HRD.out j (by rw [HLR'.out]; exact hlj)
                obtain ⟨hca, cc0⟩ := HCD.out j (by rw [HLC'.out]; exact hlj)
                subst hra
                subst hca
                have q4 := HYA.out j
                have q5 := HRi.out j
                have q6 := HCi.out j
                have q7 := HI1i.out j
                have q8 := HI2i.out j
                have HJ1j := Lib.hid (HJ1.out j)
                have HJ2j := Lib.hid (HJ2.out j)
                clear hyd
                generalize y.getD j 0 = v at *
                generalize r.getD j 0 = s at *
                generalize c.getD j 0 = t at *
                generalize pinK u r y j = a1 at *
                generalize pinK u c y j = a2 at *
                have m1 := mul_bd q3 q4
                have m2 := mul_bd m1 q5
                have m3 := mul_bd m1 q6
                have e1 : wrap64 (u * v) = u * v := IntWalk.wrap64_in _ ⟨by omega, by omega⟩
                have e2 : IntKind.i64.wrap (u * v) = u * v := IntWalk.i64_in _ ⟨by omega, by omega⟩
                have e3 : wrap64 (u * v * s) = u * v * s := IntWalk.wrap64_in _ ⟨by omega, by omega⟩
                have e4 : IntKind.i64.wrap (u * v * s) = u * v * s := IntWalk.i64_in _ ⟨by omega, by omega⟩
                have e5 : wrap64 (u * v * t) = u * v * t := IntWalk.wrap64_in _ ⟨by omega, by omega⟩
                have e6 : IntKind.i64.wrap (u * v * t) = u * v * t := IntWalk.i64_in _ ⟨by omega, by omega⟩
                have f1 : wrap64 (p1 + a1 + u * v * s) = p1 + a1 + u * v * s := IntWalk.wrap64_in _ ⟨by omega, by omega⟩
                have f2 : IntKind.i64.wrap (p1 + a1 + u * v * s) = p1 + a1 + u * v * s := IntWalk.i64_in _ ⟨by omega, by omega⟩
                have f3 : wrap64 (p2 + a2 + u * v * t) = p2 + a2 + u * v * t := IntWalk.wrap64_in _ ⟨by omega, by omega⟩
                have f4 : IntKind.i64.wrap (p2 + a2 + u * v * t) = p2 + a2 + u * v * t := IntWalk.i64_in _ ⟨by omega, by omega⟩
                clear m1 m2 m3 q4 q5 q6 q7 q8
                go_wp2_with fail
                go_round
                case rel => exact ⟨j + 1, by omega, by go_num, by rw [HJ1j.out, Int.add_assoc], by rw [HJ2j.out, Int.add_assoc]⟩
                case measure => simp [intOf]; omega
              · have hjy : j = y.length := by omega
                have hjn : ¬ (j : Int) < (y.length : Int) := by omega
                have HE1 : Hid (p1 + pinK u r y j = pallK gr x y y.length (i + 1)) := Lib.hid (by rw [HP1i.out, hjy])
                have HE2 : Hid (p2 + pinK u c y j = pallK gc x y y.length (i + 1)) := Lib.hid (by rw [HP2i.out, hjy])
                clear hjy hlj hj
                rw [HE1.out, HE2.out]
                go_wp2_with fail
                go_round
                case rel => exact ⟨i + 1, by omega, by go_num, rfl, rfl⟩
                case measure => simp [intOf]; omega
          · have hix : i = x.length := by omega
            have hin : ¬ (i : Int) < (x.length : Int) := by omega
            rw [hix] at *
            clear hix hlt hi
            go_wp2_with fail
            refine (HS1.out _ hb2).mono ?_
            rintro e w3 ⟨rfl, rfl⟩
            go_wp2_with fail
            refine (HS2.out _ hb2).mono ?_
            rintro e w3 ⟨rfl, rfl⟩
            go_wp2_with fail
            go_returns
            exact ⟨rfl, bnext hb1 hb2⟩
end Go.Proofs.Ytlkgmnmnlfaopaa
