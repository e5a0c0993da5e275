import Derived.Test.YtgbfpmfennmebaaRa
import Derived.Test.YtgbfpmfennmebaaR5
namespace Go.Proofs.Ytgbfpmfennmebaa
open Go.RowKit
set_option maxRecDepth 4000
set_option maxHeartbeats 1600000 in
theorem implSignOfFull (n : Int) (xs : List Int) (k : Int) (a : Option Addr) (b len cap : Nat) (w : World) (hn : xs.length = len) (hsm : len ≤ 1048576) (h : Rd w a b 0 xs) (hb0 : len = 0 ∨ b < w.heap.size) :
    Calls Try.prog 11 #[.int .i64 n, .slice a len cap, .int .i64 k] w fun e w' => e = .returned (.tuple #[.int .i64 (valSignOfFull n xs k), .bool (okSignOfFull n xs k)]) ∧ Below w.heap.size w w' := by
  cases hL : labB n xs
  · have H1 : Hid (valSignOfFull n xs k = 0 ∧ okSignOfFull n xs k = false) := Lib.hid (by simp [valSignOfFull, okSignOfFull, okCell, hL])
    have HR := Lib.hid (roomsOf_no n xs a b len cap w hn hsm h hb0 hL)
    rw [H1.out.1, H1.out.2]
    clear hL hn h hb0
    go_enter Try.func11, Try.ntmps11
    go_wp2_with fail
    refine HR.out.mono ?_
    rintro e w1 ⟨rfl, hb1⟩
    go_wp2_with (first | (with_reducible refine alloc_blk lr0 run_alloc_lr rfl rfl ?_) | ((with_reducible refine store_blk blkLR rfl _ _ rfl w1.heap.size lr0 lr0 ?_ ?_ ?_ lr0_size lr0_size lr0_one w1.heap.size (Nat.le_refl _) ?_); exact rfl; exact rfl; exact heap_alloc_new _ _; intro w3 hg3 hb3 hk3 hs3; have hB3 := bnext hb1 ((balloc (Below.refl w1.heap.size w1) (.cells lr0 53)).trans hb3)))
    go_ret2
    exact ⟨rfl, hB3⟩
  · obtain ⟨n, rfl⟩ := labB_nat hL
    have h2 := (labB_yes hL).2.1
    have hbd := ci_bd n h2
    cases hp : okCell n xs k
    · have H1 : Hid (valSignOfFull n xs k = 0 ∧ okSignOfFull n xs k = false) := Lib.hid (by simp [valSignOfFull, okSignOfFull, hp])
      have hk : decide (0 ≤ k ∧ k < ((ci n).length : Nat)) = false := by simpa [okCell, hL] using hp
      have HK := Lib.hid hk
      rw [H1.out.1, H1.out.2]
      have HR := Lib.hid (roomsOf_yes n xs a b len cap w hn hsm h hb0 hL)
      have HL := Lib.hid hL
      clear hL hn h hb0 hp hk
      go_enter Try.func11, Try.ntmps11
      go_wp2_with fail
      refine HR.out.mono ?_
      rintro e w1 ⟨R, rfl, hrv, hb1⟩
      obtain ⟨g, r, hrm, hrs, hro, hRs, hRo, r0, rk, hrj, hgb⟩ := rt_row HL.out hrv
      obtain ⟨ca, cc, ba, bc, hre, -⟩ := hrm.v
      subst hre
      have hj0 : R[46]? = some (.slice ca (ci n).length cc) := hrj 0 (by omega)
      have hj1 : R[47]? = some (.slice ba (bps n (3 * n)).length bc) := hrj 1 (by omega)
      have hj2 : R[48]? = some (.func (.func 62) #[] (capD g)) := hrj 2 (by omega)
      go_wp2_with (first | (with_reducible refine alloc_blk lr0 run_alloc_lr rfl rfl ?_) | ((with_reducible refine store_blk blkLR rfl _ _ rfl w1.heap.size R lr0 ?_ ?_ ?_ lr0_size hRs hRo w1.heap.size (Nat.le_refl _) ?_); exact rfl; exact rfl; exact heap_alloc_new _ _; intro w3 hg3 hb3 hk3 hs3; have hB13 := ((balloc (Below.refl w1.heap.size w1) (.cells lr0 53)).trans hb3); have c46 := blk_cell hg3 46 _ hj0; have c47 := blk_cell hg3 47 _ hj1; have c48 := blk_cell hg3 48 _ hj2))
      have hr3 := hasRoom_any _ _ _ _ _ k w3 (hrm.later hB13).v
      rw [HK.out] at hr3
      refine hr3.mono ?_
      rintro e w4 ⟨rfl, hb4⟩
      go_wp2_with fail
      go_ret2
      exact ⟨rfl, bnext (bnext hb1 hB13) hb4⟩
    · obtain ⟨n', k, e1, rfl, -, hk⟩ := okCell_yes hp
      obtain rfl : n = n' := by omega
      have HK : Hid (decide ((0 : Int) ≤ k ∧ (k : Int) < ((ci n).length : Nat)) = true) := Lib.hid (by simp; omega)
      cases hf : fullB xs n k
      · have H1 : Hid (valSignOfFull n xs k = 0 ∧ okSignOfFull n xs k = false) := Lib.hid (by simp [valSignOfFull, okSignOfFull, hf])
        have HF := Lib.hid hf
        rw [H1.out.1, H1.out.2]
        have HR := Lib.hid (roomsOf_yes n xs a b len cap w hn hsm h hb0 hL)
        have HL := Lib.hid hL
        clear hL hn h hb0 hp e1 hf
        go_enter Try.func11, Try.ntmps11
        go_wp2_with fail
        refine HR.out.mono ?_
        rintro e w1 ⟨R, rfl, hrv, hb1⟩
        obtain ⟨g, r, hrm, hrs, hro, hRs, hRo, r0, rk, hrj, hgb⟩ := rt_row HL.out hrv
        obtain ⟨ca, cc, ba, bc, hre, -⟩ := hrm.v
        subst hre
        have hj0 : R[46]? = some (.slice ca (ci n).length cc) := hrj 0 (by omega)
        have hj1 : R[47]? = some (.slice ba (bps n (3 * n)).length bc) := hrj 1 (by omega)
        have hj2 : R[48]? = some (.func (.func 62) #[] (capD g)) := hrj 2 (by omega)
        go_wp2_with (first | (with_reducible refine alloc_blk lr0 run_alloc_lr rfl rfl ?_) | ((with_reducible refine store_blk blkLR rfl _ _ rfl w1.heap.size R lr0 ?_ ?_ ?_ lr0_size hRs hRo w1.heap.size (Nat.le_refl _) ?_); exact rfl; exact rfl; exact heap_alloc_new _ _; intro w3 hg3 hb3 hk3 hs3; have hB13 := ((balloc (Below.refl w1.heap.size w1) (.cells lr0 53)).trans hb3); have c46 := blk_cell hg3 46 _ hj0; have c47 := blk_cell hg3 47 _ hj1; have c48 := blk_cell hg3 48 _ hj2))
        have hr3 := hasRoom_any _ _ _ _ _ k w3 (hrm.later hB13).v
        rw [HK.out] at hr3
        refine hr3.mono ?_
        rintro e w4 ⟨rfl, hb4⟩
        have hg4 := (hb4.block w1.heap.size (Array.getElem?_eq_some_iff.1 hg3).1).trans hg3
        have hB14 := bnext hB13 hb4
        clear hr3 hg3 c46 c47 c48
        go_wp2_with ((with_reducible refine load_blk blkLR ?_ _ rfl (w1.heap.size) ?_ R hg4 hRs ?_); exact rfl; exact rfl; simp only [Act.put, List.setIfInBounds_toArray, List.set_cons_zero, List.set_cons_succ])
        refine (isFull_any n xs _ R k _ HL.out (hrv.later hB14) hk).mono ?_
        rintro e w5 ⟨rfl, hb5⟩
        rw [HF.out]
        go_wp2_with fail
        go_ret2
        exact ⟨rfl, bnext (bnext hb1 hB14) hb5⟩
      · have H1 : Hid (valSignOfFull n xs k = signB xs n k ∧ okSignOfFull n xs k = true) := Lib.hid (by simp [valSignOfFull, okSignOfFull, hf, hp])
        have HF := Lib.hid hf
        rw [H1.out.1, H1.out.2]
        have HR := Lib.hid (roomsOf_yes n xs a b len cap w hn hsm h hb0 hL)
        have HL := Lib.hid hL
        clear hL hn h hb0 hp e1 hf
        go_enter Try.func11, Try.ntmps11
        go_wp2_with fail
        refine HR.out.mono ?_
        rintro e w1 ⟨R, rfl, hrv, hb1⟩
        obtain ⟨g, r, hrm, hrs, hro, hRs, hRo, r0, rk, hrj, hgb⟩ := rt_row HL.out hrv
        obtain ⟨ca, cc, ba, bc, hre, -⟩ := hrm.v
        subst hre
        have hj0 : R[46]? = some (.slice ca (ci n).length cc) := hrj 0 (by omega)
        have hj1 : R[47]? = some (.slice ba (bps n (3 * n)).length bc) := hrj 1 (by omega)
        have hj2 : R[48]? = some (.func (.func 62) #[] (capD g)) := hrj 2 (by omega)
        go_wp2_with (first | (with_reducible refine alloc_blk lr0 run_alloc_lr rfl rfl ?_) | ((with_reducible refine store_blk blkLR rfl _ _ rfl w1.heap.size R lr0 ?_ ?_ ?_ lr0_size hRs hRo w1.heap.size (Nat.le_refl _) ?_); exact rfl; exact rfl; exact heap_alloc_new _ _; intro w3 hg3 hb3 hk3 hs3; have hB13 := ((balloc (Below.refl w1.heap.size w1) (.cells lr0 53)).trans hb3); have c46 := blk_cell hg3 46 _ hj0; have c47 := blk_cell hg3 47 _ hj1; have c48 := blk_cell hg3 48 _ hj2))
        have hr3 := hasRoom_any _ _ _ _ _ k w3 (hrm.later hB13).v
        rw [HK.out] at hr3
        refine hr3.mono ?_
        rintro e w4 ⟨rfl, hb4⟩
        have hz3 := (Array.getElem?_eq_some_iff.1 hg3).1
        have hz4 := hb4.size
        have hg4 := (hb4.block w1.heap.size hz3).trans hg3
        have hB14 := bnext hB13 hb4
        clear hr3 hg3 c46 c47 c48
        go_wp2_with ((with_reducible refine load_blk blkLR ?_ _ rfl (w1.heap.size) ?_ R hg4 hRs ?_); exact rfl; exact rfl; simp only [Act.put, List.setIfInBounds_toArray, List.set_cons_zero, List.set_cons_succ])
        refine (isFull_any n xs _ R k _ HL.out (hrv.later hB14) hk).mono ?_
        rintro e w5 ⟨rfl, hb5⟩
        rw [HF.out]
        have hg5 := (hb5.block w1.heap.size (by omega)).trans hg4
        have hB15 := bnext hB14 hb5
        clear hg4 hb5
        go_wp2_with ((with_reducible refine load_blk blkLR ?_ _ rfl (w1.heap.size) ?_ R hg5 hRs ?_); exact rfl; exact rfl; simp only [Act.put, List.setIfInBounds_toArray, List.set_cons_zero, List.set_cons_succ])
        refine (signOf_any n xs _ R k w5 HL.out (hrv.later hB15) hk).mono ?_
        rintro e w6 ⟨rfl, hb6⟩
        go_wp2_with fail
        go_ret2
        exact ⟨rfl, bnext (bnext hb1 hB15) hb6⟩
end Go.Proofs.Ytgbfpmfennmebaa
