import Derived.Test.YtgloelhpnhofgaaR4
import Derived.Test.YtgloelhpnhofgaaZj
import Derived.Test.YtgloelhpnhofgaaDb
namespace Go.Proofs.Ytgloelhpnhofgaa
open Go.RowKit
set_option maxRecDepth 4000
set_option maxHeartbeats 1600000 in
theorem implFullCells (n : Int) (xs : List Int) (a : Option Addr) (b len cap : Nat) (w : World) (hn : xs.length = len) (hsm : len ≤ 1048576) (h : Rd w a b 0 xs) (hb0 : len = 0 ∨ b < w.heap.size) :
    Calls Try.prog 47 #[.int .i64 n, .slice a len cap] w (Gives w 3 (outFullCells n xs) (labB n xs)) := by
  cases hL : labB n xs
  · have H1 : Hid (outFullCells n xs = []) := Lib.hid (by simp [outFullCells, hL])
    have HR := Lib.hid (roomsOf_no n xs a b len cap w hn hsm h hb0 hL)
    rw [H1.out]
    clear hL hn h hb0
    go_enter Try.func47, Try.ntmps47
    go_wp2_with fail
    refine HR.out.mono ?_
    rintro e w1 ⟨rfl, hb1⟩
    go_wp2_with (first | (with_reducible refine alloc_blk lr0 run_alloc_lr rfl rfl ?_) | ((with_reducible refine store_blk blkLR rfl _ _ rfl w1.heap.size lr0 lr0 ?_ ?_ ?_ lr0_size lr0_size lr0_one w1.heap.size (Nat.le_refl _) ?_); exact rfl; exact rfl; exact heap_alloc_new _ _; intro w3 hg3 hb3 hk3 hs3; have hB3 := bnext hb1 ((balloc (Below.refl w1.heap.size w1) (.cells lr0 65)).trans hb3)))
    go_ret2
    exact gives_none hB3
  · obtain ⟨n, rfl⟩ := labB_nat hL
    have H1 : Hid (outFullCells n xs = flt (fullB xs n) (ci n).length) := Lib.hid (by simp [outFullCells, hL])
    rw [H1.out]
    have HR := Lib.hid (roomsOf_yes n xs a b len cap w hn hsm h hb0 hL)
    have HL := Lib.hid hL
    clear hL hn h hb0
    go_enter Try.func47, Try.ntmps47
    go_wp2_with fail
    refine HR.out.mono ?_
    rintro e w1 ⟨R, rfl, hrv, hb1⟩
    obtain ⟨g, r, hrm, hrs, hro, hRs, hRo, r0, rk, hrj, hgb⟩ := rt_row HL.out hrv
    go_wp2_with (first | (with_reducible refine alloc_blk lr0 run_alloc_lr rfl rfl ?_) | ((with_reducible refine store_blk blkLR rfl _ _ rfl w1.heap.size R lr0 ?_ ?_ ?_ lr0_size hRs hRo w1.heap.size (Nat.le_refl _) ?_); exact rfl; exact rfl; exact heap_alloc_new _ _; intro w3 hg3 hb3 hk3 hs3; have hB13 := ((balloc (Below.refl w1.heap.size w1) (.cells lr0 65)).trans hb3)) | ((with_reducible refine load_blk blkLR ?_ _ rfl (w1.heap.size) ?_ R hg3 hRs ?_); exact rfl; exact rfl; simp only [Act.put, List.setIfInBounds_toArray, List.set_cons_zero, List.set_cons_succ]))
    refine (fullCells_any n xs _ R _ HL.out (hrv.later hB13)).mono ?_
    rintro e w4 ⟨v, rfl, ho, hb4⟩
    have hB3 := bnext hb1 hB13
    obtain ⟨-, sa, sc, sb, rfl, -, -⟩ := own_shape ho
    go_wp2_with fail
    go_ret2
    exact ⟨_, rfl, own_base ho hB3.size, bnext hB3 hb4⟩
set_option maxHeartbeats 1600000 in
theorem implIsFull (n : Int) (xs : List Int) (k : Int) (a : Option Addr) (b len cap : Nat) (w : World) (hn : xs.length = len) (hsm : len ≤ 1048576) (h : Rd w a b 0 xs) (hb0 : len = 0 ∨ b < w.heap.size) :
    Calls Try.prog 45 #[.int .i64 n, .slice a len cap, .int .i64 k] w fun e w' => e = .returned (.tuple #[.bool (valIsFull n xs k), .bool (okIsFull n xs k)]) ∧ Below w.heap.size w w' := by
  cases hL : labB n xs
  · have H1 : Hid (valIsFull n xs k = false ∧ okIsFull n xs k = false) := Lib.hid (by simp [valIsFull, okIsFull, okCell, hL])
    have HR := Lib.hid (roomsOf_no n xs a b len cap w hn hsm h hb0 hL)
    rw [H1.out.1, H1.out.2]
    clear hL hn h hb0
    go_enter Try.func45, Try.ntmps45
    go_wp2_with fail
    refine HR.out.mono ?_
    rintro e w1 ⟨rfl, hb1⟩
    go_wp2_with (first | (with_reducible refine alloc_blk lr0 run_alloc_lr rfl rfl ?_) | ((with_reducible refine store_blk blkLR rfl _ _ rfl w1.heap.size lr0 lr0 ?_ ?_ ?_ lr0_size lr0_size lr0_one w1.heap.size (Nat.le_refl _) ?_); exact rfl; exact rfl; exact heap_alloc_new _ _; intro w3 hg3 hb3 hk3 hs3; have hB3 := bnext hb1 ((balloc (Below.refl w1.heap.size w1) (.cells lr0 65)).trans hb3)))
    go_ret2
    exact ⟨rfl, hB3⟩
  · obtain ⟨n, rfl⟩ := labB_nat hL
    cases hp : okCell n xs k
    · have H1 : Hid (valIsFull n xs k = false ∧ okIsFull n xs k = false) := Lib.hid (by simp [valIsFull, okIsFull, hp])
      have hk : decide (0 ≤ k ∧ k < ((ci n).length : Nat)) = false := by simpa [okCell, hL] using hp
      have HK := Lib.hid hk
      rw [H1.out.1, H1.out.2]
      have HR := Lib.hid (roomsOf_yes n xs a b len cap w hn hsm h hb0 hL)
      have HL := Lib.hid hL
      clear hL hn h hb0 hp hk
      go_enter Try.func45, Try.ntmps45
      go_wp2_with fail
      refine HR.out.mono ?_
      rintro e w1 ⟨R, rfl, hrv, hb1⟩
      obtain ⟨g, r, hrm, hrs, hro, hRs, hRo, r0, rk, hrj, hgb⟩ := rt_row HL.out hrv
      obtain ⟨ca, cc, ba, bc, hre, -⟩ := hrm.v
      subst hre
      have hj0 : R[46]? = some (.slice ca (ci n).length cc) := hrj 0 (by omega)
      have hj1 : R[47]? = some (.slice ba (bps n (3 * n)).length bc) := hrj 1 (by omega)
      have hj2 : R[48]? = some (.func (.func 90) #[] (capD g)) := hrj 2 (by omega)
      go_wp2_with (first | (with_reducible refine alloc_blk lr0 run_alloc_lr rfl rfl ?_) | ((with_reducible refine store_blk blkLR rfl _ _ rfl w1.heap.size R lr0 ?_ ?_ ?_ lr0_size hRs hRo w1.heap.size (Nat.le_refl _) ?_); exact rfl; exact rfl; exact heap_alloc_new _ _; intro w3 hg3 hb3 hk3 hs3; have hB13 := ((balloc (Below.refl w1.heap.size w1) (.cells lr0 65)).trans hb3); have c46 := blk_cell hg3 46 _ hj0; have c47 := blk_cell hg3 47 _ hj1; have c48 := blk_cell hg3 48 _ hj2))
      have hr3 := hasRoom_any _ _ _ _ _ k w3 (hrm.later hB13).v
      rw [HK.out] at hr3
      refine hr3.mono ?_
      rintro e w4 ⟨rfl, hb4⟩
      go_wp2_with fail
      go_ret2
      exact ⟨rfl, bnext (bnext hb1 hB13) hb4⟩
    · have H0 : Hid (okIsFull n xs k = true) := Lib.hid hp
      obtain ⟨n', k, e1, rfl, -, hk⟩ := okCell_yes hp
      obtain rfl : n = n' := by omega
      have H1 : Hid (valIsFull n xs k = fullB xs n k) := Lib.hid (by simp [valIsFull, hp])
      have HK : Hid (decide ((0 : Int) ≤ k ∧ (k : Int) < ((ci n).length : Nat)) = true) := Lib.hid (by simp; omega)
      rw [H0.out, H1.out]
      have HR := Lib.hid (roomsOf_yes n xs a b len cap w hn hsm h hb0 hL)
      have HL := Lib.hid hL
      clear hL hn h hb0 hp e1
      go_enter Try.func45, Try.ntmps45
      go_wp2_with fail
      refine HR.out.mono ?_
      rintro e w1 ⟨R, rfl, hrv, hb1⟩
      obtain ⟨g, r, hrm, hrs, hro, hRs, hRo, r0, rk, hrj, hgb⟩ := rt_row HL.out hrv
      obtain ⟨ca, cc, ba, bc, hre, -⟩ := hrm.v
      subst hre
      have hj0 : R[46]? = some (.slice ca (ci n).length cc) := hrj 0 (by omega)
      have hj1 : R[47]? = some (.slice ba (bps n (3 * n)).length bc) := hrj 1 (by omega)
      have hj2 : R[48]? = some (.func (.func 90) #[] (capD g)) := hrj 2 (by omega)
      go_wp2_with (first | (with_reducible refine alloc_blk lr0 run_alloc_lr rfl rfl ?_) | ((with_reducible refine store_blk blkLR rfl _ _ rfl w1.heap.size R lr0 ?_ ?_ ?_ lr0_size hRs hRo w1.heap.size (Nat.le_refl _) ?_); exact rfl; exact rfl; exact heap_alloc_new _ _; intro w3 hg3 hb3 hk3 hs3; have hB13 := ((balloc (Below.refl w1.heap.size w1) (.cells lr0 65)).trans hb3); have c46 := blk_cell hg3 46 _ hj0; have c47 := blk_cell hg3 47 _ hj1; have c48 := blk_cell hg3 48 _ hj2))
      have hr3 := hasRoom_any _ _ _ _ _ k w3 (hrm.later hB13).v
      rw [HK.out] at hr3
      refine hr3.mono ?_
      rintro e w4 ⟨rfl, hb4⟩
      have hg4 := (hb4.block w1.heap.size (Array.getElem?_eq_some_iff.1 hg3).1).trans hg3
      have hB14 := bnext hB13 hb4
      clear hr3 hg3 c46 c47 c48
      go_wp2_with ((with_reducible refine load_blk blkLR ?_ _ rfl (w1.heap.size) ?_ R hg4 hRs ?_); exact rfl; exact rfl; simp only [Act.put, List.setIfInBounds_toArray, List.set_cons_zero, List.set_cons_succ])
      refine (isFull_any n xs _ R k _ HL.out (hrv.later hB14) hk).mono ?_
      rintro e w5 ⟨rfl, hb5⟩
      go_wp2_with fail
      go_ret2
      exact ⟨rfl, bnext (bnext hb1 hB14) hb5⟩
set_option maxHeartbeats 1600000 in
theorem implDoorsOfCell (n : Int) (xs : List Int) (k : Int) (a : Option Addr) (b len cap : Nat) (w : World) (hn : xs.length = len) (hsm : len ≤ 1048576) (h : Rd w a b 0 xs) (hb0 : len = 0 ∨ b < w.heap.size) :
    Calls Try.prog 43 #[.int .i64 n, .slice a len cap, .int .i64 k] w (CGives w (outDoorsOfCell n xs k) (okCell n xs k)) := by
  cases hL : labB n xs
  · have H1 : Hid (outDoorsOfCell n xs k = [] ∧ okCell n xs k = false) := Lib.hid (by simp [outDoorsOfCell, okCell, hL])
    have HR := Lib.hid (roomsOf_no n xs a b len cap w hn hsm h hb0 hL)
    rw [H1.out.1, H1.out.2]
    clear hL hn h hb0
    go_enter Try.func43, Try.ntmps43
    go_wp2_with fail
    refine HR.out.mono ?_
    rintro e w1 ⟨rfl, hb1⟩
    go_wp2_with (first | (with_reducible refine alloc_blk lr0 run_alloc_lr rfl rfl ?_) | ((with_reducible refine store_blk blkLR rfl _ _ rfl w1.heap.size lr0 lr0 ?_ ?_ ?_ lr0_size lr0_size lr0_one w1.heap.size (Nat.le_refl _) ?_); exact rfl; exact rfl; exact heap_alloc_new _ _; intro w3 hg3 hb3 hk3 hs3; have hB3 := bnext hb1 ((balloc (Below.refl w1.heap.size w1) (.cells lr0 65)).trans hb3)))
    go_ret2
    exact cgives_none hB3
  · obtain ⟨n, rfl⟩ := labB_nat hL
    cases hp : okCell n xs k
    · have H1 : Hid (outDoorsOfCell n xs k = []) := Lib.hid (by simp [outDoorsOfCell, hp])
      have hk : decide (0 ≤ k ∧ k < ((ci n).length : Nat)) = false := by simpa [okCell, hL] using hp
      have HK := Lib.hid hk
      rw [H1.out]
      have HR := Lib.hid (roomsOf_yes n xs a b len cap w hn hsm h hb0 hL)
      have HL := Lib.hid hL
      clear hL hn h hb0 hp hk
      go_enter Try.func43, Try.ntmps43
      go_wp2_with fail
      refine HR.out.mono ?_
      rintro e w1 ⟨R, rfl, hrv, hb1⟩
      obtain ⟨g, r, hrm, hrs, hro, hRs, hRo, r0, rk, hrj, hgb⟩ := rt_row HL.out hrv
      obtain ⟨ca, cc, ba, bc, hre, -⟩ := hrm.v
      subst hre
      have hj0 : R[46]? = some (.slice ca (ci n).length cc) := hrj 0 (by omega)
      have hj1 : R[47]? = some (.slice ba (bps n (3 * n)).length bc) := hrj 1 (by omega)
      have hj2 : R[48]? = some (.func (.func 90) #[] (capD g)) := hrj 2 (by omega)
      go_wp2_with (first | (with_reducible refine alloc_blk lr0 run_alloc_lr rfl rfl ?_) | ((with_reducible refine store_blk blkLR rfl _ _ rfl w1.heap.size R lr0 ?_ ?_ ?_ lr0_size hRs hRo w1.heap.size (Nat.le_refl _) ?_); exact rfl; exact rfl; exact heap_alloc_new _ _; intro w3 hg3 hb3 hk3 hs3; have hB13 := ((balloc (Below.refl w1.heap.size w1) (.cells lr0 65)).trans hb3); have c46 := blk_cell hg3 46 _ hj0; have c47 := blk_cell hg3 47 _ hj1; have c48 := blk_cell hg3 48 _ hj2))
      have hr3 := hasRoom_any _ _ _ _ _ k w3 (hrm.later hB13).v
      rw [HK.out] at hr3
      refine hr3.mono ?_
      rintro e w4 ⟨rfl, hb4⟩
      go_wp2_with fail
      go_ret2
      exact cgives_none (bnext (bnext hb1 hB13) hb4)
    · obtain ⟨n', k, e1, rfl, -, hk⟩ := okCell_yes hp
      obtain rfl : n = n' := by omega
      have H1 : Hid (outDoorsOfCell n xs k = (dcell xs n k).map lst) := Lib.hid (by simp [outDoorsOfCell, hp]; rfl)
      have HK : Hid (decide ((0 : Int) ≤ k ∧ (k : Int) < ((ci n).length : Nat)) = true) := Lib.hid (by simp; omega)
      have hdl := dcell_len xs n k
      rw [H1.out]
      have HR := Lib.hid (roomsOf_yes n xs a b len cap w hn hsm h hb0 hL)
      have HL := Lib.hid hL
      clear hL hn h hb0 hp e1
      go_enter Try.func43, Try.ntmps43
      go_wp2_with fail
      refine HR.out.mono ?_
      rintro e w1 ⟨R, rfl, hrv, hb1⟩
      obtain ⟨g, r, hrm, hrs, hro, hRs, hRo, r0, rk, hrj, hgb⟩ := rt_row HL.out hrv
      obtain ⟨ca, cc, ba, bc, hre, -⟩ := hrm.v
      subst hre
      have hj0 : R[46]? = some (.slice ca (ci n).length cc) := hrj 0 (by omega)
      have hj1 : R[47]? = some (.slice ba (bps n (3 * n)).length bc) := hrj 1 (by omega)
      have hj2 : R[48]? = some (.func (.func 90) #[] (capD g)) := hrj 2 (by omega)
      go_wp2_with (first | (with_reducible refine alloc_blk lr0 run_alloc_lr rfl rfl ?_) | ((with_reducible refine store_blk blkLR rfl _ _ rfl w1.heap.size R lr0 ?_ ?_ ?_ lr0_size hRs hRo w1.heap.size (Nat.le_refl _) ?_); exact rfl; exact rfl; exact heap_alloc_new _ _; intro w3 hg3 hb3 hk3 hs3; have hB13 := ((balloc (Below.refl w1.heap.size w1) (.cells lr0 65)).trans hb3); have c46 := blk_cell hg3 46 _ hj0; have c47 := blk_cell hg3 47 _ hj1; have c48 := blk_cell hg3 48 _ hj2))
      have hr3 := hasRoom_any _ _ _ _ _ k w3 (hrm.later hB13).v
      rw [HK.out] at hr3
      refine hr3.mono ?_
      rintro e w4 ⟨rfl, hb4⟩
      have hg4 := (hb4.block w1.heap.size (Array.getElem?_eq_some_iff.1 hg3).1).trans hg3
      have hB14 := bnext hB13 hb4
      clear hr3 hg3 c46 c47 c48
      go_wp2_with ((with_reducible refine load_win blkRms ?_ _ rfl (w1.heap.size) 46 ?_ R _ hg4 hrj hrs ?_); exact rfl; exact rfl; simp only [Act.put, List.setIfInBounds_toArray, List.set_cons_zero, List.set_cons_succ])
      refine (doorsT_any n xs _ g _ k _ HL.out (hrm.later hB14) hk).mono ?_
      rintro e w5 ⟨v, rfl, hp5, hb5⟩
      obtain ⟨pa, pc, pb, rfl, hpr⟩ := pair_shape hp5
      have hB5 := bnext (bnext hb1 hB14) hb5
      go_wp2_with fail
      refine (listsOf_any _ pa pb pc _ hpr (by omega)).mono ?_
      rintro e w6 ⟨v, rfl, hc6, hb6⟩
      obtain ⟨ta, tm, tc, rfl⟩ := cells_shape hc6
      go_wp2_with fail
      go_ret2
      exact ⟨_, rfl, cells_base hc6 hB5.size, bnext hB5 hb6⟩
set_option maxHeartbeats 1600000 in
theorem implBorderDoors (n : Int) (xs : List Int) (a : Option Addr) (b len cap : Nat) (w : World) (hn : xs.length = len) (hsm : len ≤ 1048576) (h : Rd w a b 0 xs) (hb0 : len = 0 ∨ b < w.heap.size) :
    Calls Try.prog 41 #[.int .i64 n, .slice a len cap] w (CGives w (outBorderDoors n xs) (labB n xs)) := by
  cases hL : labB n xs
  · have H1 : Hid (outBorderDoors n xs = []) := Lib.hid (by simp [outBorderDoors, hL])
    have HR := Lib.hid (roomsOf_no n xs a b len cap w hn hsm h hb0 hL)
    rw [H1.out]
    clear hL hn h hb0
    go_enter Try.func41, Try.ntmps41
    go_wp2_with fail
    refine HR.out.mono ?_
    rintro e w1 ⟨rfl, hb1⟩
    go_wp2_with (first | (with_reducible refine alloc_blk lr0 run_alloc_lr rfl rfl ?_) | ((with_reducible refine store_blk blkLR rfl _ _ rfl w1.heap.size lr0 lr0 ?_ ?_ ?_ lr0_size lr0_size lr0_one w1.heap.size (Nat.le_refl _) ?_); exact rfl; exact rfl; exact heap_alloc_new _ _; intro w3 hg3 hb3 hk3 hs3; have hB3 := bnext hb1 ((balloc (Below.refl w1.heap.size w1) (.cells lr0 65)).trans hb3)))
    go_ret2
    exact cgives_none hB3
  · obtain ⟨n, rfl⟩ := labB_nat hL
    have H1 : Hid (outBorderDoors n xs = ((bps n (3 * n)).filter (drB xs)).map lst) := Lib.hid (by simp [outBorderDoors, hL]; rfl)
    have hfl : ((bps n (3 * n)).filter (drB xs)).length ≤ 1000 := Nat.le_trans (List.length_filter_le _ _) (by have := (labB_yes hL).2.1; rw [bps_len]; omega)
    rw [H1.out]
    have HR := Lib.hid (roomsOf_yes n xs a b len cap w hn hsm h hb0 hL)
    have HL := Lib.hid hL
    clear hL hn h hb0
    go_enter Try.func41, Try.ntmps41
    go_wp2_with fail
    refine HR.out.mono ?_
    rintro e w1 ⟨R, rfl, hrv, hb1⟩
    obtain ⟨g, r, hrm, hrs, hro, hRs, hRo, r0, rk, hrj, hgb⟩ := rt_row HL.out hrv
    go_wp2_with (first | (with_reducible refine alloc_blk lr0 run_alloc_lr rfl rfl ?_) | ((with_reducible refine store_blk blkLR rfl _ _ rfl w1.heap.size R lr0 ?_ ?_ ?_ lr0_size hRs hRo w1.heap.size (Nat.le_refl _) ?_); exact rfl; exact rfl; exact heap_alloc_new _ _; intro w3 hg3 hb3 hk3 hs3; have hB13 := ((balloc (Below.refl w1.heap.size w1) (.cells lr0 65)).trans hb3)) | ((with_reducible refine load_win blkRms ?_ _ rfl (w1.heap.size) 46 ?_ R r hg3 hrj hrs ?_); exact rfl; exact rfl; simp only [Act.put, List.setIfInBounds_toArray, List.set_cons_zero, List.set_cons_succ]))
    refine (below_doors (fgr_ci HL.out) (hrm.later hB13)).mono ?_
    rintro e w5 ⟨v, rfl, hp5, hb5⟩
    obtain ⟨pa, pc, pb, rfl, hpr⟩ := pair_shape hp5
    have hB5 := bnext (bnext hb1 hB13) hb5
    go_wp2_with fail
    refine (listsOf_any _ pa pb pc _ hpr (by omega)).mono ?_
    rintro e w6 ⟨v, rfl, hc6, hb6⟩
    obtain ⟨ta, tm, tc, rfl⟩ := cells_shape hc6
    go_wp2_with fail
    go_ret2
    exact ⟨_, rfl, cells_base hc6 hB5.size, bnext hB5 hb6⟩
end Go.Proofs.Ytgloelhpnhofgaa
