import Derived.LoopN
import Derived.BigRegion
import Derived.BigQuiet
import Derived.RegionTactic
import Derived.Test.YtlkgmnmnlfaopaaQ18
namespace Go.Proofs.Ytlkgmnmnlfaopaa
open Go.RowKit
set_option maxRecDepth 4000
set_option maxHeartbeats 3200000 in
theorem gmEqual_any (gr gc : List (List Int)) (m n : Nat) (ok1 : GOk gr m n) (ok2 : GOk gc m n) (x y : List Int) (hx : allB 0 1000000 x = true) (hxm : x.length = m) (hy : allB 0 1000000 y = true) (hyn : y.length = n)
    (ar ac ax ay : Option Addr) (cr cc cx cy B : Nat) (w : World) (hr : RdSS w B ar gr) (hc : RdSS w B ac gc) (h1 : RdS w B ax x) (h2 : RdS w B ay y) (hB : B ≤ w.heap.size) :
    Calls Try.prog 72 #[.agg #[.slice ar gr.length cr, .slice ac gc.length cc], .slice ax x.length cx, .slice ay y.length cy] w fun e w' => e = .returned (.bool (eqB gr gc m n x y)) ∧ Below w.heap.size w w' := by
  obtain ⟨w1, hw1⟩ : ∃ w1, w1 = (w.alloc (.cells #[.slice ar gr.length cr, .slice ac gc.length cc] 27)) := ⟨_, rfl⟩
  have hb1 : Below w.heap.size w w1 := by rw [hw1]; exact balloc (Below.refl w.heap.size w) _
  have hz1 := hb1.size
  have g1 : w1.heap[w.heap.size]? = some (.cells #[.slice ar gr.length cr, .slice ac gc.length cc] 27 (0, 0)) := by rw [hw1]; exact heap_alloc_new w _
  have KR := Lib.hid (fun w' (hb : Below w1.heap.size w1 w') => show RdSS w' B ar gr from rdss_chg (rdss_chg hr (chg_below hb1) hB (.inr rfl)) (chg_below hb) (by omega) (.inr rfl))
  have KC := Lib.hid (fun w' (hb : Below w1.heap.size w1 w') => show RdSS w' B ac gc from rdss_chg (rdss_chg hc (chg_below hb1) hB (.inr rfl)) (chg_below hb) (by omega) (.inr rfl))
  have KX := Lib.hid (fun w' (hb : Below w1.heap.size w1 w') => show RdS w' B ax x from rds_chg (rds_chg h1 (chg_below hb1) hB (.inr rfl)) (chg_below hb) (by omega) (.inr rfl))
  have KY := Lib.hid (fun w' (hb : Below w1.heap.size w1 w') => show RdS w' B ay y from rds_chg (rds_chg h2 (chg_below hb1) hB (.inr rfl)) (chg_below hb) (by omega) (.inr rfl))
  have hbd : Below w1.heap.size w1 w1.drew := (Same.refl w1).drew _
  have HG1 := Lib.hid (gmReplies_any gr m n ok1 y 1000000 hy (by omega) hyn ar ay cr cy B w1.drew (KR.out _ hbd) (KY.out _ hbd) (by have := hbd.size; omega))
  have HT := Lib.hid (fun w' (hb : Below w1.heap.size w1 w') => gmTurned_any gc m n ok2 ac cc B w' (KC.out _ hb) (by have := hb.size; omega))
  have HG2 := Lib.hid (fun w' (hb : Below w1.heap.size w1 w') a1 c1 (h1 : RdSS w' w'.heap.size a1 (trL gc m n)) => gmReplies_any (trL gc m n) n m (trL_ok ok2) x 1000000 hx (by omega) hxm a1 ax c1 cx w'.heap.size w' h1 (rds_mono (KX.out _ hb) (by have := hb.size; omega)) (Nat.le_refl _))
  have HW := Lib.hid hw1
  have HV : Hid (eqB gr gc m n x y = (useB x (bestL (payL gr y n)) && useB y (bestL (payL (trL gc m n) x m)))) := Lib.hid rfl
  have HXP := Lib.hid (fun k (hk : k < x.length) => (allB_at hx k hk).1)
  have HYP := Lib.hid (fun k (hk : k < y.length) => (allB_at hy k hk).1)
  have hxl := rd_len h1
  have hyl := rd_len h2
  unfold maxLen at hxl hyl
  clear hw1 hr hc h1 h2 ok1 ok2 hx hxm hy hyn
  generalize bestL (payL gr y n) = R1 at *
  generalize bestL (payL (trL gc m n) x m) = R2 at *
  have HN1 := Lib.hid (fun h : useB x R1 = false => show eqB gr gc m n x y = false by rw [HV.out, h]; rfl)
  have HN2 := Lib.hid (fun h : useB y R2 = false => show eqB gr gc m n x y = false by rw [HV.out, h, Bool.and_false])
  have HNY := Lib.hid (fun (h : useB x R1 = true) (h' : useB y R2 = true) => show eqB gr gc m n x y = true by rw [HV.out, h, h']; rfl)
  have HU1 := Lib.hid (useB_no x R1)
  have HU2 := Lib.hid (useB_no y R2)
  have HY1 := Lib.hid (useB_yes x R1)
  have HY2 := Lib.hid (useB_yes y R2)
  go_enter Try.func72, Try.ntmps72
  go_wp2_with fail
  rw [← HW.out]
  refine wp_region_mix (fun w' => w'.heap[w.heap.size]? = some (.cells #[.slice ar gr.length cr, .slice ac gc.length cc] 27 (0, 0))) [3, 6, 8] [0, 1, 2, 4, 5, 7, 3, 6, 8, 9, 10] (by kernel_rfl) (by kernel_rfl) (fun _ _ d _ _ h => by cases d <;> exact h) (by kernel_rfl) rfl g1 ?_
  refine mix_take 0 _ ?_ rfl rfl rfl (some 13) rfl (fun w' hw' => ?hv0) ?_
  case hv0 =>
    go_simp
    with_reducible rfl
  simp only [Act.put, List.setIfInBounds_toArray, List.set_cons_zero, List.set_cons_succ]
  refine mix_take 1 _ ?_ rfl rfl rfl (some 14) rfl (fun w' hw' => ?hv1) ?_
  case hv1 =>
    have s0 := blk_cell (w := w') hw' 0 _ rfl
    go_simp
    with_reducible rfl
  simp only [Act.put, List.setIfInBounds_toArray, List.set_cons_zero, List.set_cons_succ]
  refine mix_take 2 _ ?_ rfl rfl rfl (some 15) rfl (fun w' hw' => ?hv2) ?_
  case hv2 =>
    go_simp
    with_reducible rfl
  simp only [Act.put, List.setIfInBounds_toArray, List.set_cons_zero, List.set_cons_succ]
  refine mix_take 4 _ ?_ rfl rfl rfl (some 17) rfl (fun w' hw' => ?hv4) ?_
  case hv4 =>
    go_simp
    with_reducible rfl
  simp only [Act.put, List.setIfInBounds_toArray, List.set_cons_zero, List.set_cons_succ]
  refine mix_take 5 _ ?_ rfl rfl rfl (some 18) rfl (fun w' hw' => ?hv5) ?_
  case hv5 =>
    have s0 := blk_cell (w := w') hw' 1 _ rfl
    go_simp
    with_reducible rfl
  simp only [Act.put, List.setIfInBounds_toArray, List.set_cons_zero, List.set_cons_succ]
  refine mix_take 7 _ ?_ rfl rfl rfl (some 20) rfl (fun w' hw' => ?hv7) ?_
  case hv7 =>
    go_simp
    with_reducible rfl
  simp only [Act.put, List.setIfInBounds_toArray, List.set_cons_zero, List.set_cons_succ]
  refine mix_call 3 _ rfl rfl rfl 59 #[.slice ar gr.length cr, .slice ay y.length cy] (some 16) rfl ?hr3 ?_
  case hr3 => go_simp
  refine HG1.out.mono ?_
  rintro e w2 ⟨v1, rfl, ho1, hb2⟩
  have hb2' : Below w1.heap.size w1 w2 := hbd.trans hb2
  have hz2 := hb2'.size
  refine ⟨_, rfl, hp_later g1 hb2', ?_⟩
  simp only [Act.put, List.setIfInBounds_toArray, List.set_cons_zero, List.set_cons_succ]
  refine mix_call 6 _ rfl rfl rfl 62 #[.slice ac gc.length cc] (some 19) rfl ?hr6 ?_
  case hr6 => go_simp
  refine (HT.out _ hb2').mono ?_
  rintro e w3 ⟨v, rfl, hcv, hb3⟩
  obtain ⟨a1, c1, rfl, r1⟩ := oss_shape (oss_of hcv)
  have hb3' := bnext hb2' hb3
  have hz3 := hb3.size
  refine ⟨_, rfl, hp_later g1 hb3', ?_⟩
  simp only [Act.put, List.setIfInBounds_toArray, List.set_cons_zero, List.set_cons_succ]
  refine mix_call 8 _ rfl rfl rfl 59 #[.slice a1 (trL gc m n).length c1, .slice ax x.length cx] (some 21) rfl ?hr8 ?_
  case hr8 => go_simp
  refine (HG2.out _ hb3' _ _ r1).mono ?_
  rintro e w4 ⟨v2, rfl, ho2, hb4⟩
  have hb4' := bnext hb3' hb4
  refine ⟨_, rfl, hp_later g1 hb4', ?_⟩
  simp only [Act.put, List.setIfInBounds_toArray, List.set_cons_zero, List.set_cons_succ]
  refine mix_take 9 _ ?_ rfl rfl rfl (some 7) rfl (fun w' hw' => ?hv9) ?_
  case hv9 =>
    go_simp
    with_reducible rfl
  simp only [Act.put, List.setIfInBounds_toArray, List.set_cons_zero, List.set_cons_succ]
  refine mix_take 10 _ ?_ rfl rfl rfl (some 8) rfl (fun w' hw' => ?hv10) ?_
  case hv10 =>
    go_simp
    with_reducible rfl
  simp only [Act.put, List.setIfInBounds_toArray, List.set_cons_zero, List.set_cons_succ]
  refine mix_done ?_
  have ho1 := oi_keep (oi_keep ho1 (chg_below hb3) (Nat.le_refl _) (.inl (Nat.zero_le _))) (chg_below hb4) hz3 (.inl (Nat.zero_le _))
  obtain ⟨pa, pc, pb, rfl, hp, -⟩ := oi_shape ho1
  obtain ⟨qa, qc, qb, rfl, hq, -⟩ := oi_shape ho2
  have HH1 := Lib.hid (fun v => l1H_any R1 v pa pb 0 R1.length pc w4 rfl hp)
  have HH2 := Lib.hid (fun v => l1H_any R2 v qa qb 0 R2.length qc w4 rfl hq)
  obtain ⟨xb, xo, hxd, -⟩ := KX.out _ hb4'
  obtain ⟨yb, yo, hyd, -⟩ := KY.out _ hb4'
  have HXD := Lib.hid hxd.2
  have HYD := Lib.hid hyd.2
  have hB4 := hb1.trans (hb4'.mono hz1)
  clear ho1 ho2 hp hq hxd hyd hcv r1 hb2 hb3 hb4 hb2' hb3' hb4' hbd g1 HG1 HT HG2 hz2 hz3
  go_wp2_with fail
  go_loop [24] (fun v24 => ∃ k : Nat, k ≤ x.length ∧ v24 = .int .i64 k ∧ ∀ j, j < k → x.getD j 0 = 0 ∨ haB R1 (j : Nat) = true) (fun v24 => x.length - (intOf v24).toNat)
  case atStart => exact ⟨0, Nat.zero_le _, rfl, by omega⟩
  case round =>
    obtain ⟨k, hk, rfl, hall⟩ := hrel
    have HA := Lib.hid hall
    clear hall
    by_cases hlt : k < x.length
    · obtain ⟨ha, c0⟩ := HXD.out k hlt
      subst ha
      have hki : (k : Int) < (x.length : Int) := by omega
      have HHk := Lib.hid (HH1.out (k : Nat))
      have HNk := Lib.hid (HU1.out k hlt)
      have hxp := HXP.out k hlt
      have HX : Hid ((x.getD k 0 = 0 ∨ haB R1 (k : Nat) = true) → ∀ j, j < k + 1 → x.getD j 0 = 0 ∨ haB R1 (j : Nat) = true) := Lib.hid (fun hx j hj => by
        by_cases e : j = k
        · rw [e]; exact hx
        · exact HA.out j (by omega))
      generalize x.getD k 0 = z at *
      by_cases hz : 0 < z
      · cases hh : haB R1 (k : Nat)
        · have HF := Lib.hid (HN1.out (HNk.out (by omega) hh))
          rw [hh] at HHk
          clear hh
          go_wp2_with fail
          refine HHk.out.mono ?_
          rintro e w' ⟨rfl, rfl⟩
          go_wp2_with fail
          go_ret
          exact ⟨ret_bool HF.out.symm, hB4⟩
        · have HXX := Lib.hid (HX.out (.inr hh))
          rw [hh] at HHk
          clear hh
          go_wp2_with fail
          refine HHk.out.mono ?_
          rintro e w' ⟨rfl, rfl⟩
          go_wp2_with fail
          go_round
          case rel => exact ⟨k + 1, by omega, by go_num, HXX.out⟩
          case measure => simp [intOf]; omega
      · have HXX := Lib.hid (HX.out (.inl (by omega)))
        go_wp2_with fail
        go_round
        case rel => exact ⟨k + 1, by omega, by go_num, HXX.out⟩
        case measure => simp [intOf]; omega
    · have HT := Lib.hid (HY1.out (fun j hj => HA.out j (by omega)))
      have hln : ¬ (k : Int) < (x.length : Int) := by omega
      go_wp2_with fail
      go_loop [40] (fun v40 => ∃ k : Nat, k ≤ y.length ∧ v40 = .int .i64 k ∧ ∀ j, j < k → y.getD j 0 = 0 ∨ haB R2 (j : Nat) = true) (fun v40 => y.length - (intOf v40).toNat)
      case atStart => exact ⟨0, Nat.zero_le _, rfl, by omega⟩
      case round =>
        obtain ⟨k, hk, rfl, hall⟩ := hrel
        have HA := Lib.hid hall
        clear hall
        by_cases hlt : k < y.length
        · obtain ⟨ha, c0⟩ := HYD.out k hlt
          subst ha
          have hki : (k : Int) < (y.length : Int) := by omega
          have HHk := Lib.hid (HH2.out (k : Nat))
          have HNk := Lib.hid (HU2.out k hlt)
          have hyp := HYP.out k hlt
          have HX : Hid ((y.getD k 0 = 0 ∨ haB R2 (k : Nat) = true) → ∀ j, j < k + 1 → y.getD j 0 = 0 ∨ haB R2 (j : Nat) = true) := Lib.hid (fun hx j hj => by
            by_cases e : j = k
            · rw [e]; exact hx
            · exact HA.out j (by omega))
          generalize y.getD k 0 = z at *
          by_cases hz : 0 < z
          · cases hh : haB R2 (k : Nat)
            · have HF := Lib.hid (HN2.out (HNk.out (by omega) hh))
              rw [hh] at HHk
              clear hh
              go_wp2_with fail
              refine HHk.out.mono ?_
              rintro e w' ⟨rfl, rfl⟩
              go_wp2_with fail
              go_ret
              exact ⟨ret_bool HF.out.symm, hB4⟩
            · have HXX := Lib.hid (HX.out (.inr hh))
              rw [hh] at HHk
              clear hh
              go_wp2_with fail
              refine HHk.out.mono ?_
              rintro e w' ⟨rfl, rfl⟩
              go_wp2_with fail
              go_round
              case rel => exact ⟨k + 1, by omega, by go_num, HXX.out⟩
              case measure => simp [intOf]; omega
          · have HXX := Lib.hid (HX.out (.inl (by omega)))
            go_wp2_with fail
            go_round
            case rel => exact ⟨k + 1, by omega, by go_num, HXX.out⟩
            case measure => simp [intOf]; omega
        · have HT2 := Lib.hid (HNY.out HT.out (HY2.out (fun j hj => HA.out j (by omega))))
          go_wp2_with fail
          go_ret
          exact ⟨ret_bool HT2.out.symm, hB4⟩
end Go.Proofs.Ytlkgmnmnlfaopaa
