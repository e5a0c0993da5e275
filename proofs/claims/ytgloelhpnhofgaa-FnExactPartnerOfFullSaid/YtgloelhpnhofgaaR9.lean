import Derived.Test.YtgloelhpnhofgaaR7
import Derived.Test.YtgloelhpnhofgaaVg
namespace Go.Proofs.Ytgloelhpnhofgaa
open Go.RowKit
set_option maxRecDepth 4000
set_option maxHeartbeats 1600000 in
theorem walkFromFull_any (n : Nat) (xs : List Int) (base : Nat) (R : Array Value) (k : Nat) (w : World) (hL : labB n xs = true) (hrv : RoomsT w base n xs R) (hk : k < (ci n).length) (hf : fullB xs n k = true) :
    Calls Try.prog 65 #[.agg R, .int .i64 k] w fun e w' => ∃ g r, RmW 90 #[] (capD g) (drB xs) (ci n) (bps n (3 * n)) base r w ∧ Walked w r (wF xs n k) e w' := by
  have h2 := (labB_yes hL).2.1
  have hbd := ci_bd n h2
  obtain ⟨hd1, hd2, hd3⟩ := full_door hL hk hf
  obtain ⟨g, r, hrm, hrs, hro, hRs, -, -, -, hrj, -⟩ := rt_row hL hrv
  have HL := Lib.hid hL
  have HRM := Lib.hid hrm
  have HD1 := Lib.hid hd1
  have HG := Lib.hid hd2
  generalize hW : wF xs n k = W
  have HW : Hid (wfrom xs n (k : Int) (dF xs n k) = W) := Lib.hid hW
  obtain ⟨ca, cc, ba, bc, hre, -⟩ := hrm.v
  subst hre
  have hj0 : R[46]? = some (.slice ca (ci n).length cc) := hrj 0 (by omega)
  have hj1 : R[47]? = some (.slice ba (bps n (3 * n)).length bc) := hrj 1 (by omega)
  have hj2 : R[48]? = some (.func (.func 90) #[] (capD g)) := hrj 2 (by omega)
  clear hL hrv hd1 hd2 hW hf hrm
  generalize dF xs n k = p at HD1 HG hd3 HW
  obtain ⟨p1, p2⟩ := p
  obtain ⟨L, D, f⟩ := W
  have W2 : Below w.heap.size w ((w.alloc (.cells R 65)).alloc (.cells zeroW 71)) := balloc (balloc (Below.refl _ _) _) _
  have hg1 : ((w.alloc (.cells R 65)).alloc (.cells zeroW 71)).heap[w.heap.size]? = some (.cells R 65 (0, 0)) := by
    rw [Below.heap_alloc _ _ _ (by simp)]
    exact heap_alloc_new w _
  have hz1 : ((w.alloc (.cells R 65)).alloc (.cells zeroW 71)).heap[w.heap.size + 1]? = some (.cells zeroW 71 (0, 0)) := by
    have e := heap_alloc_new (w.alloc (.cells R 65)) (.cells zeroW 71)
    rwa [World.size_alloc] at e
  have hs1 : ((w.alloc (.cells R 65)).alloc (.cells zeroW 71)).heap.size = w.heap.size + 2 := by simp
  have hki : (k : Int) < ((ci n).length : Int) := by omega
  go_enter Try.func65, Try.ntmps65
  go_wp2_with ((with_reducible refine alloc_blk zeroW run_alloc_wk rfl rfl ?_); simp only [World.size_alloc, Act.put, List.setIfInBounds_toArray, List.set_cons_zero, List.set_cons_succ])
  generalize ((w.alloc (.cells R 65)).alloc (.cells zeroW 71)) = w1 at W2 hg1 hz1 hs1 ⊢
  refine wp_region_mix (fun w' => Below w.heap.size w w' ∧ w'.heap[w.heap.size]? = some (.cells R 65 (0, 0))) [6, 8, 9, 10] [0, 1, 2, 3, 4, 5, 6, 7, 8, 9, 10] (by kernel_rfl) (by kernel_rfl) (fun _ _ d _ _ h => by cases d <;> exact h) (by kernel_rfl) rfl ⟨W2.drew, hg1⟩ ?_
  refine mix_take 0 _ ?_ rfl rfl rfl (some 5) rfl (fun w' hw' => ?hv0) ?_
  case hv0 => (go_simp; with_reducible rfl)
  simp only [Act.put, List.setIfInBounds_toArray, List.set_cons_zero, List.set_cons_succ]
  refine mix_take 1 _ ?_ rfl rfl rfl (some 6) rfl (fun w' hw' => ?hv1) ?_
  case hv1 =>
    have e0 := blk_cell hw'.2 46 _ hj0
    have e1 := blk_cell hw'.2 47 _ hj1
    have e2 := blk_cell hw'.2 48 _ hj2
    go_simp
    with_reducible rfl
  simp only [Act.put, List.setIfInBounds_toArray, List.set_cons_zero, List.set_cons_succ]
  refine mix_take 2 _ ?_ rfl rfl rfl (some 7) rfl (fun w' hw' => ?hv2) ?_
  case hv2 => (go_simp; with_reducible rfl)
  simp only [Act.put, List.setIfInBounds_toArray, List.set_cons_zero, List.set_cons_succ]
  refine mix_take 3 _ ?_ rfl rfl rfl (some 8) rfl (fun w' hw' => ?hv3) ?_
  case hv3 => (go_simp; with_reducible rfl)
  simp only [Act.put, List.setIfInBounds_toArray, List.set_cons_zero, List.set_cons_succ]
  refine mix_take 4 _ ?_ rfl rfl rfl (some 9) rfl (fun w' hw' => ?hv4) ?_
  case hv4 =>
    have e0 := blk_cell hw'.2 46 _ hj0
    have e1 := blk_cell hw'.2 47 _ hj1
    have e2 := blk_cell hw'.2 48 _ hj2
    go_simp
    with_reducible rfl
  simp only [Act.put, List.setIfInBounds_toArray, List.set_cons_zero, List.set_cons_succ]
  refine mix_take 5 _ ?_ rfl rfl rfl (some 10) rfl (fun w' hw' => ?hv5) ?_
  case hv5 => (go_simp; with_reducible rfl)
  simp only [Act.put, List.setIfInBounds_toArray, List.set_cons_zero, List.set_cons_succ]
  refine mix_call 6 _ rfl rfl rfl 83 #[.agg #[.slice ca (ci n).length cc, .slice ba (bps n (3 * n)).length bc, .func (.func 90) #[] (capD g)], .int .i64 k] (some 11) rfl ?hr6 ?_
  case hr6 => go_simp
  refine (doorsT_any n xs base g _ k _ HL.out (HRM.out.later W2.drew) hk).mono ?_
  rintro e w2 ⟨v, rfl, hp, hb2⟩
  rw [HD1.out] at hp
  obtain ⟨da, dc, db, rfl, hrd⟩ := pair_shape hp
  obtain ⟨rfl, hdb, c0, c1⟩ := hrd 0 (by simp)
  have hB2 : Below w.heap.size w w2 := W2.drew.trans (hb2.mono (by show w.heap.size ≤ w1.heap.size; omega))
  have hg2 := (hb2.block w.heap.size (by show _ < w1.heap.size; omega)).trans hg1
  have hz2 := (hb2.block (w.heap.size + 1) (by show _ < w1.heap.size; omega)).trans hz1
  have hs2 : w1.heap.size ≤ w2.heap.size := hb2.size
  rw [Nat.zero_mul] at c0 c1
  simp only [List.getD_cons_zero, Nat.zero_add] at c0 c1
  have hl1 : [(p1, p2)].length = 1 := rfl
  rw [hl1]
  refine ⟨_, rfl, ⟨hB2, hg2⟩, ?_⟩
  simp only [Act.put, List.setIfInBounds_toArray, List.set_cons_zero, List.set_cons_succ]
  refine mix_take 7 _ ?_ rfl rfl rfl (some 12) rfl (fun w' hw' => ?hv7) ?_
  case hv7 => (go_simp; with_reducible rfl)
  simp only [Act.put, List.setIfInBounds_toArray, List.set_cons_zero, List.set_cons_succ]
  refine mix_val 8 _ ?_ rfl rfl rfl (some 13) rfl ?hv8 ⟨⟨hB2, hg2⟩, ?_⟩
  case hv8 => (go_simp; with_reducible rfl)
  simp only [Act.put, List.setIfInBounds_toArray, List.set_cons_zero, List.set_cons_succ]
  refine mix_call 9 _ rfl rfl rfl 94 #[.agg #[.slice ca (ci n).length cc, .slice ba (bps n (3 * n)).length bc, .func (.func 90) #[] (capD g)], .int .i64 k, .agg #[.int .i64 p1, .int .i64 p2]] (some 14) rfl ?hr9 ?_
  case hr9 => go_simp
  have hwf := walkFrom_any _ #[] (capD g) (drB xs) (ci n) (bps n (3 * n)) (Pr.cnt n) base _ (k : Int) p1 p2 w2 (fgr_ci HL.out) (HRM.out.later hB2) (goes_ci h2 HG.out)
  rw [from_ci xs h2, HW.out] at hwf
  refine hwf.mono ?_
  rintro e w3 ⟨pv, u, v, rfl, ho3, hin, hb3⟩
  have ho3 := own_num ho3 (ints_len L).symm
  obtain ⟨-, pa, pc, pb, rfl, -⟩ := own_shape ho3
  have hB3 := bnext hB2 hb3
  have hg3 := (hb3.block w.heap.size (by omega)).trans hg2
  have hz3 := (hb3.block (w.heap.size + 1) (by omega)).trans hz2
  have hs3 := hb3.size
  have hwz : Hid ((wkA #[.slice ca (ci n).length cc, .slice ba (bps n (3 * n)).length bc, .func (.func 90) #[] (capD g)] (.slice pa (ints L).length pc) u v f).size = 7 ∧ (wkA #[.slice ca (ci n).length cc, .slice ba (bps n (3 * n)).length bc, .func (.func 90) #[] (capD g)] (.slice pa (ints L).length pc) u v f).all (·.oneCell') = true) := Lib.hid ⟨wkA_size _ _ _ _ _ hrs, wkA_one _ _ _ _ _ _ _ hro⟩
  refine ⟨_, rfl, ⟨hB3, hg3⟩, ?_⟩
  simp only [Act.put, List.setIfInBounds_toArray, List.set_cons_zero, List.set_cons_succ]
  refine mix_store_blk blkWalk 10 _ rfl rfl rfl _ _ rfl none rfl (w.heap.size + 1) (wkA #[.slice ca (ci n).length cc, .slice ba (bps n (3 * n)).length bc, .func (.func 90) #[] (capD g)] (.slice pa (ints L).length pc) u v f) zeroW rfl rfl hz3 zeroW_size hwz.out.1 hwz.out.2 w.heap.size (by omega) ?_
  intro w4 hg4 hb4 hk4 hs4
  refine ⟨⟨hB3.trans hb4, (hk4 w.heap.size (by omega)).trans hg3⟩, ?_⟩
  simp only [Act.put]
  refine mix_done ?_
  have ho4 := own_keep ho3 (fun q hq => hk4 q (by have := (ho3.lt q hq).1; omega))
  have hle : w.heap.size ≤ w2.heap.size := by omega
  simp only at hin
  go_wp2_with fail
  exact bodyPost_ret (results_blk1 blkWalk rfl _ _ (w.heap.size + 1) _ rfl hg4 hwz.out.1) rfl ⟨g, _, HRM.out, _, u, v, rfl, own_num (own_base ho4 hle) (ints_len L), hin, hB3.trans hb4⟩
set_option maxHeartbeats 1600000 in
theorem implPartnerOfFull (n : Int) (xs : List Int) (k : Int) (a : Option Addr) (b len cap : Nat) (w : World) (hn : xs.length = len) (hsm : len ≤ 1048576) (h : Rd w a b 0 xs) (hb0 : len = 0 ∨ b < w.heap.size) :
    Calls Try.prog 26 #[.int .i64 n, .slice a len cap, .int .i64 k] w fun e w' => e = .returned (.tuple #[.int .i64 (valPart n xs k), .bool (okPart n xs k)]) ∧ Below w.heap.size w w' := by
  cases hL : labB n xs
  · have H1 : Hid (valPart n xs k = 0 ∧ okPart n xs k = false) := Lib.hid (have h0 : okPart n xs k = false := (by simp [okPart, okCell, hL]); ⟨part_no h0, h0⟩)
    have HR := Lib.hid (roomsOf_no n xs a b len cap w hn hsm h hb0 hL)
    skip
    clear hL hn h hb0
    go_enter Try.func26, Try.ntmps26
    go_wp2_with fail
    refine HR.out.mono ?_
    rintro e w1 ⟨rfl, hb1⟩
    go_wp2_with (first | (with_reducible refine alloc_blk lr0 run_alloc_lr rfl rfl ?_) | ((with_reducible refine store_blk blkLR rfl _ _ rfl w1.heap.size lr0 lr0 ?_ ?_ ?_ lr0_size lr0_size lr0_one w1.heap.size (Nat.le_refl _) ?_); exact rfl; exact rfl; exact heap_alloc_new _ _; intro w3 hg3 hb3 hk3 hs3; have hB3 := bnext hb1 ((balloc (Below.refl w1.heap.size w1) (.cells lr0 65)).trans hb3)))
    go_ret2
    exact ⟨ret_in H1.out.1 H1.out.2, hB3⟩
  · obtain ⟨n, rfl⟩ := labB_nat hL
    have h2 := (labB_yes hL).2.1
    have hbd := ci_bd n h2
    cases hp : okCell n xs k
    · have H0 : okPart n xs k = false := by simp [okPart, hp]
      have H1 : Hid (valPart n xs k = 0 ∧ okPart n xs k = false) := Lib.hid ⟨part_no H0, H0⟩
      have hk : decide (0 ≤ k ∧ k < ((ci n).length : Nat)) = false := by simpa [okCell, hL] using hp
      have HK := Lib.hid hk
      have HR := Lib.hid (roomsOf_yes n xs a b len cap w hn hsm h hb0 hL)
      have HL := Lib.hid hL
      clear hL hn h hb0 hp hk H0
      go_enter Try.func26, Try.ntmps26
      go_wp2_with fail
      refine HR.out.mono ?_
      rintro e w1 ⟨R, rfl, hrv, hb1⟩
      obtain ⟨g, r, hrm, hrs, hro, hRs, hRo, r0, rk, hrj, hgb⟩ := rt_row HL.out hrv
      obtain ⟨ca, cc, ba, bc, hre, -⟩ := hrm.v
      subst hre
      have hj0 : R[46]? = some (.slice ca (ci n).length cc) := hrj 0 (by omega)
      have hj1 : R[47]? = some (.slice ba (bps n (3 * n)).length bc) := hrj 1 (by omega)
      have hj2 : R[48]? = some (.func (.func 90) #[] (capD g)) := hrj 2 (by omega)
      go_wp2_with (first | (with_reducible refine alloc_blk lr0 run_alloc_lr rfl rfl ?_) | ((with_reducible refine store_blk blkLR rfl _ _ rfl w1.heap.size R lr0 ?_ ?_ ?_ lr0_size hRs hRo w1.heap.size (Nat.le_refl _) ?_); exact rfl; exact rfl; exact heap_alloc_new _ _; intro w3 hg3 hb3 hk3 hs3; have hB13 := ((balloc (Below.refl w1.heap.size w1) (.cells lr0 65)).trans hb3); have c46 := blk_cell hg3 46 _ hj0; have c47 := blk_cell hg3 47 _ hj1; have c48 := blk_cell hg3 48 _ hj2))
      have hr3 := hasRoom_any _ _ _ _ _ k w3 (hrm.later hB13).v
      rw [HK.out] at hr3
      refine hr3.mono ?_
      rintro e w4 ⟨rfl, hb4⟩
      go_wp2_with fail
      go_ret2
      exact ⟨ret_in H1.out.1 H1.out.2, bnext (bnext hb1 hB13) hb4⟩
    · have hp2 := hp
      obtain ⟨n', k, e1, rfl, -, hk⟩ := okCell_yes hp
      obtain rfl : n = n' := by omega
      have H0 : okPart n xs k = (fullB xs n k && (wF xs n k).2.2) := by simp [okPart, hp2]
      have HK : Hid (decide ((0 : Int) ≤ k ∧ (k : Int) < ((ci n).length : Nat)) = true) := Lib.hid (by simp; omega)
      cases hf : fullB xs n k
      · have H2 : okPart n xs k = false := by rw [H0, hf]; rfl
        have H1 : Hid (valPart n xs k = 0 ∧ okPart n xs k = false) := Lib.hid ⟨part_no H2, H2⟩
        have HF := Lib.hid hf
        have HR := Lib.hid (roomsOf_yes n xs a b len cap w hn hsm h hb0 hL)
        have HL := Lib.hid hL
        clear hL hn h hb0 hp hp2 e1 H0 H2 hf
        go_enter Try.func26, Try.ntmps26
        go_wp2_with fail
        refine HR.out.mono ?_
        rintro e w1 ⟨R, rfl, hrv, hb1⟩
        obtain ⟨g, r, hrm, hrs, hro, hRs, hRo, r0, rk, hrj, hgb⟩ := rt_row HL.out hrv
        obtain ⟨ca, cc, ba, bc, hre, -⟩ := hrm.v
        subst hre
        have hj0 : R[46]? = some (.slice ca (ci n).length cc) := hrj 0 (by omega)
        have hj1 : R[47]? = some (.slice ba (bps n (3 * n)).length bc) := hrj 1 (by omega)
        have hj2 : R[48]? = some (.func (.func 90) #[] (capD g)) := hrj 2 (by omega)
        go_wp2_with (first | (with_reducible refine alloc_blk lr0 run_alloc_lr rfl rfl ?_) | ((with_reducible refine store_blk blkLR rfl _ _ rfl w1.heap.size R lr0 ?_ ?_ ?_ lr0_size hRs hRo w1.heap.size (Nat.le_refl _) ?_); exact rfl; exact rfl; exact heap_alloc_new _ _; intro w3 hg3 hb3 hk3 hs3; have hB13 := ((balloc (Below.refl w1.heap.size w1) (.cells lr0 65)).trans hb3); have c46 := blk_cell hg3 46 _ hj0; have c47 := blk_cell hg3 47 _ hj1; have c48 := blk_cell hg3 48 _ hj2))
        have hr3 := hasRoom_any _ _ _ _ _ k w3 (hrm.later hB13).v
        rw [HK.out] at hr3
        refine hr3.mono ?_
        rintro e w4 ⟨rfl, hb4⟩
        have hg4 := (hb4.block w1.heap.size (Array.getElem?_eq_some_iff.1 hg3).1).trans hg3
        have hB14 := bnext hB13 hb4
        clear hr3 hg3 c46 c47 c48
        go_wp2_with ((with_reducible refine load_blk blkLR ?_ _ rfl (w1.heap.size) ?_ R hg4 hRs ?_); exact rfl; exact rfl; simp only [Act.put, List.setIfInBounds_toArray, List.set_cons_zero, List.set_cons_succ])
        refine (isFull_any n xs _ R k _ HL.out (hrv.later hB14) hk).mono ?_
        rintro e w5 ⟨rfl, hb5⟩
        rw [HF.out]
        go_wp2_with fail
        go_ret2
        exact ⟨ret_in H1.out.1 H1.out.2, bnext (bnext hb1 hB14) hb5⟩
      · have hlast := wF_last hL hk hf
        have HWF := Lib.hid (fun base r w' hrv => walkFromFull_any n xs base r k w' hL hrv hk hf)
        have HF := Lib.hid hf
        have HV : Hid (valPart n xs k = if okPart n xs k then (lastN (wF xs n k).1 : Int) else 0) := Lib.hid rfl
        rw [hf, Bool.true_and] at H0
        have H1 := Lib.hid H0
        have hwl : (wF xs n k).1.length ≤ (ci n).length := wfrom_len _ _ _ _
        clear H0
        generalize wF xs n k = W at hlast HWF HV H1 hwl
        obtain ⟨L, D, f⟩ := W
        simp only at hlast hwl HWF
        have HR := Lib.hid (roomsOf_yes n xs a b len cap w hn hsm h hb0 hL)
        have HL := Lib.hid hL
        clear hL hn h hb0 hp hp2 e1 hf
        go_enter Try.func26, Try.ntmps26
        go_wp2_with fail
        refine HR.out.mono ?_
        rintro e w1 ⟨R, rfl, hrv, hb1⟩
        obtain ⟨g, r, hrm, hrs, hro, hRs, hRo, r0, rk, hrj, hgb⟩ := rt_row HL.out hrv
        obtain ⟨ca, cc, ba, bc, hre, -⟩ := hrm.v
        subst hre
        have hj0 : R[46]? = some (.slice ca (ci n).length cc) := hrj 0 (by omega)
        have hj1 : R[47]? = some (.slice ba (bps n (3 * n)).length bc) := hrj 1 (by omega)
        have hj2 : R[48]? = some (.func (.func 90) #[] (capD g)) := hrj 2 (by omega)
        go_wp2_with (first | (with_reducible refine alloc_blk lr0 run_alloc_lr rfl rfl ?_) | ((with_reducible refine store_blk blkLR rfl _ _ rfl w1.heap.size R lr0 ?_ ?_ ?_ lr0_size hRs hRo w1.heap.size (Nat.le_refl _) ?_); exact rfl; exact rfl; exact heap_alloc_new _ _; intro w3 hg3 hb3 hk3 hs3; have hB13 := ((balloc (Below.refl w1.heap.size w1) (.cells lr0 65)).trans hb3); have c46 := blk_cell hg3 46 _ hj0; have c47 := blk_cell hg3 47 _ hj1; have c48 := blk_cell hg3 48 _ hj2))
        have hr3 := hasRoom_any _ _ _ _ _ k w3 (hrm.later hB13).v
        rw [HK.out] at hr3
        refine hr3.mono ?_
        rintro e w4 ⟨rfl, hb4⟩
        have hz3 := (Array.getElem?_eq_some_iff.1 hg3).1
        have hz4 := hb4.size
        have hg4 := (hb4.block w1.heap.size hz3).trans hg3
        have hB14 := bnext hB13 hb4
        clear hr3 hg3 c46 c47 c48
        go_wp2_with ((with_reducible refine load_blk blkLR ?_ _ rfl (w1.heap.size) ?_ R hg4 hRs ?_); exact rfl; exact rfl; simp only [Act.put, List.setIfInBounds_toArray, List.set_cons_zero, List.set_cons_succ])
        refine (isFull_any n xs _ R k _ HL.out (hrv.later hB14) hk).mono ?_
        rintro e w5 ⟨rfl, hb5⟩
        rw [HF.out]
        have hg5 := (hb5.block w1.heap.size (by omega)).trans hg4
        have hB15 := bnext hB14 hb5
        clear hg4 hb5
        go_wp2_with ((with_reducible refine load_blk blkLR ?_ _ rfl (w1.heap.size) ?_ R hg5 hRs ?_); exact rfl; exact rfl; simp only [Act.put, List.setIfInBounds_toArray, List.set_cons_zero, List.set_cons_succ])
        refine (HWF.out _ R w5 (hrv.later hB15)).mono ?_
        rintro e w6 ⟨g2, r2, hrm2, pv, u, v, rfl, ho6, -, hb6⟩
        obtain ⟨hr2s, hr2o⟩ := rm_size hrm2
        have ho6 := own_num ho6 (ints_len L).symm
        obtain ⟨-, pa, pc, pb, rfl, -⟩ := own_shape ho6
        have hwz : Hid ((wkA r2 (.slice pa (ints L).length pc) u v f).size = 7 ∧ (wkA r2 (.slice pa (ints L).length pc) u v f).all (·.oneCell') = true) := Lib.hid ⟨wkA_size _ _ _ _ _ hr2s, wkA_one _ _ _ _ _ _ _ hr2o⟩
        have hB06 := bnext (bnext hb1 hB15) hb6
        clear hg5 hb6 hB15 hb1 hrm hrm2 hrv hro
        cases f
        · go_wp2_with (first | (with_reducible refine alloc_blk zeroW run_alloc_wk rfl rfl ?_) | ((with_reducible refine store_blk blkWalk rfl _ _ rfl w6.heap.size (wkA r2 (.slice pa (ints L).length pc) u v false) zeroW ?_ ?_ ?_ zeroW_size hwz.out.1 hwz.out.2 w6.heap.size (Nat.le_refl _) ?_); exact rfl; exact rfl; exact heap_alloc_new _ _; intro w7 hg7 hb7 hk7 hs7; have hB7 := ((balloc (Below.refl w6.heap.size w6) (.cells zeroW 71)).trans hb7); have q6 := blk_cell hg7 6 _ (wk_at hr2s _ _ _ _ 3)))
          go_ret2
          exact ⟨ret_in (by rw [HV.out, H1.out]; rfl) H1.out, bnext hB06 hB7⟩
        · rcases hlast with ⟨-, h⟩ | ⟨pre, l, e1, hl, -⟩
          · cases h
          · subst e1
            have hpl : pre.length ≤ 1000 := by rw [List.length_append] at hwl; simp only [List.length_cons, List.length_nil] at hwl; omega
            go_wp2_with (first | (with_reducible refine alloc_blk zeroW run_alloc_wk rfl rfl ?_) | ((with_reducible refine store_blk blkWalk rfl _ _ rfl w6.heap.size (wkA r2 (.slice pa (ints (pre ++ [l])).length pc) u v true) zeroW ?_ ?_ ?_ zeroW_size hwz.out.1 hwz.out.2 w6.heap.size (Nat.le_refl _) ?_); exact rfl; exact rfl; exact heap_alloc_new _ _; intro w7 hg7 hb7 hk7 hs7; have hB7 := ((balloc (Below.refl w6.heap.size w6) (.cells zeroW 71)).trans hb7); have q6 := blk_cell hg7 6 _ (wk_at hr2s _ _ _ _ 3)) | ((with_reducible refine load_blk blkWalk ?_ _ rfl (w6.heap.size) ?_ _ hg7 hwz.out.1 ?_); exact rfl; exact rfl; simp only [Act.put, List.setIfInBounds_toArray, List.set_cons_zero, List.set_cons_succ]))
            have ho7 := own_now ho6 hB7
            refine (walkLast_any r2 _ u v _ _ pre l w7 hr2s ho7 hpl).mono ?_
            rintro e9 w8 ⟨rfl, hb8⟩
            go_wp2_with fail
            go_ret2
            exact ⟨ret_iv (by rw [HV.out, H1.out, if_pos rfl, lastN_app]) H1.out, bnext (bnext hB06 hB7) hb8⟩
end Go.Proofs.Ytgloelhpnhofgaa
