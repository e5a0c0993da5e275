import Derived.Test.YtgbfpmfennmebaaRa
import Derived.Test.YtgbfpmfennmebaaR5
import Derived.Test.YtgbfpmfennmebaaDe
namespace Go.Proofs.Ytgbfpmfennmebaa
open Go.RowKit
set_option maxRecDepth 4000
set_option maxHeartbeats 1600000 in
theorem implDegreeOf (n : Int) (xs : List Int) (a : Option Addr) (b len cap : Nat) (w : World) (hn : xs.length = len) (hsm : len ≤ 1048576) (h : Rd w a b 0 xs) (hb0 : len = 0 ∨ b < w.heap.size) :
    Calls Try.prog 14 #[.int .i64 n, .slice a len cap] w fun e w' => e = .returned (.tuple #[.int .i64 (valDegreeOf n xs), .bool (okDegreeOf n xs)]) ∧ Below w.heap.size w w' := by
  cases hL : labB n xs
  · have H1 : Hid (valDegreeOf n xs = 0 ∧ okDegreeOf n xs = false) := Lib.hid (by simp [valDegreeOf, okDegreeOf, hL])
    have HR := Lib.hid (roomsOf_no n xs a b len cap w hn hsm h hb0 hL)
    rw [H1.out.1, H1.out.2]
    clear hL hn h hb0
    go_enter Try.func14, Try.ntmps14
    go_wp2_with fail
    refine HR.out.mono ?_
    rintro e w1 ⟨rfl, hb1⟩
    go_wp2_with (first | (with_reducible refine alloc_blk lr0 run_alloc_lr rfl rfl ?_) | ((with_reducible refine store_blk blkLR rfl _ _ rfl w1.heap.size lr0 lr0 ?_ ?_ ?_ lr0_size lr0_size lr0_one w1.heap.size (Nat.le_refl _) ?_); exact rfl; exact rfl; exact heap_alloc_new _ _; intro w3 hg3 hb3 hk3 hs3; have hB3 := bnext hb1 ((balloc (Below.refl w1.heap.size w1) (.cells lr0 53)).trans hb3)))
    go_ret2
    exact ⟨rfl, hB3⟩
  · obtain ⟨n, rfl⟩ := labB_nat hL
    obtain ⟨h1, h2, -, -⟩ := labB_yes hL
    have hbd := ci_bd n h2
    have H1 : Hid (valDegreeOf n xs = dsm xs n (flt (fullB xs n) (ci n).length) ∧ okDegreeOf n xs = true) := Lib.hid (by simp [valDegreeOf, okDegreeOf, hL])
    have HBD := Lib.hid (dsm_bd xs n (fullB xs n) (ci n).length)
    have HAT := Lib.hid (flt_at (fullB xs n) (ci n).length)
    have hfl := flt_len (fullB xs n) (ci n).length
    rw [H1.out.1, H1.out.2]
    have HR := Lib.hid (roomsOf_yes n xs a b len cap w hn hsm h hb0 hL)
    have HL := Lib.hid hL
    clear hL hn h hb0
    go_enter Try.func14, Try.ntmps14
    go_wp2_with fail
    refine HR.out.mono ?_
    rintro e w1 ⟨R, rfl, hrv, hb1⟩
    obtain ⟨g, r, hrm, hrs, hro, hRs, hRo, r0, rk, hrj, hgb⟩ := rt_row HL.out hrv
    go_wp2_with (first | (with_reducible refine alloc_blk lr0 run_alloc_lr rfl rfl ?_) | ((with_reducible refine store_blk blkLR rfl _ _ rfl w1.heap.size R lr0 ?_ ?_ ?_ lr0_size hRs hRo w1.heap.size (Nat.le_refl _) ?_); exact rfl; exact rfl; exact heap_alloc_new _ _; intro w3 hg3 hb3 hk3 hs3; have hB13 := ((balloc (Below.refl w1.heap.size w1) (.cells lr0 53)).trans hb3)) | ((with_reducible refine load_blk blkLR ?_ _ rfl (w1.heap.size) ?_ R hg3 hRs ?_); exact rfl; exact rfl; simp only [Act.put, List.setIfInBounds_toArray, List.set_cons_zero, List.set_cons_succ]))
    have hz3 := (Array.getElem?_eq_some_iff.1 hg3).1
    refine (fullCells_any n xs _ R _ HL.out (hrv.later hB13)).mono ?_
    rintro e w4 ⟨v, rfl, ho, hb4⟩
    obtain ⟨-, fa, fc, fb, rfl, hx, hrd⟩ := own_shape ho
    have hbl := hx.imp_right fun h => own_lt ho fb (by rw [h]; rfl)
    have hB4 := bnext (bnext hb1 hB13) hb4
    have hg4 := (hb4.block w1.heap.size hz3).trans hg3
    have hz4 : w1.heap.size < w4.heap.size := Nat.lt_of_lt_of_le hz3 hb4.size
    have HRV := Lib.hid (hrv.later (bnext hB13 hb4))
    have HG := Lib.hid hg4
    have HRD := Lib.hid hrd
    clear hx hrd ho hg4 hg3 hb3 hb4 hB13 hrv hb1 hrm
    generalize hLL : flt (fullB xs n) (ci n).length = L at HBD HAT hfl HRD ⊢
    have HLL := Lib.hid hLL
    clear hLL
    go_wp2_with fail
    go_loopw [8, 22] (fun vs vc wr => ∃ t : Nat, t ≤ L.length ∧ vc = .int .i64 t ∧ vs = .int .i64 (dsm xs n (L.take t)) ∧ Below w4.heap.size w4 wr) (fun _ vc _ => L.length - (intOf vc).toNat)
    case atStart => exact ⟨0, Nat.zero_le _, rfl, rfl, Below.refl _ _⟩
    case round =>
      obtain ⟨t, ht, rfl, rfl, hb⟩ := hrel
      have hsb := HBD.out t ht
      by_cases hlt : t < L.length
      · obtain ⟨rfl, c0⟩ := (HRD.out.below hb hbl).2 t hlt
        obtain ⟨k, hk, hkc⟩ := HAT.out t hlt
        rw [hk, Nat.zero_add] at c0
        have HE : Hid (dsm xs n (L.take (t + 1)) = dsm xs n (L.take t) + signB xs n k) := Lib.hid (by
          rw [List.getD_eq_getElem?_getD, List.getElem?_eq_getElem hlt] at hk
          simp only [Option.getD_some] at hk
          rw [List.take_add_one, List.getElem?_eq_getElem hlt, hk]
          exact dsm_snoc xs n (L.take t) k)
        have hpm := signB_pm xs n k
        have hg2 := (hb.block w1.heap.size hz4).trans HG.out
        have HS := Lib.hid (signOf_any n xs _ R k wr HL.out (HRV.out.later hb) hkc)
        have hti : (t : Int) < (L.length : Int) := by omega
        clear hk
        generalize dsm xs n (L.take t) = s at hsb HE ⊢
        generalize signB xs n k = sg at hpm HE HS
        go_wp2_with ((with_reducible refine load_blk blkLR ?_ _ rfl (w1.heap.size) ?_ R hg2 hRs ?_); exact rfl; exact rfl; simp only [Act.put, List.setIfInBounds_toArray, List.set_cons_zero, List.set_cons_succ])
        refine HS.out.mono ?_
        rintro e w5 ⟨rfl, hb5⟩
        go_wp2_with fail
        go_roundw
        case rel => exact ⟨t + 1, by omega, by go_num, by rw [HE.out], bnext hb hb5⟩
        case measure => simp [intOf]; omega
      · have ht2 : t = L.length := by omega
        rw [ht2, List.take_length]
        have hsb := HBD.out L.length (Nat.le_refl _)
        rw [List.take_length] at hsb
        go_wp2_with fail
        go_ret2
        exact ⟨by rw [HLL.out]; rfl, bnext hB4 hb⟩
set_option maxHeartbeats 1600000 in
theorem implTurnsOfBorder (n : Int) (xs : List Int) (a : Option Addr) (b len cap : Nat) (w : World) (hn : xs.length = len) (hsm : len ≤ 1048576) (h : Rd w a b 0 xs) (hb0 : len = 0 ∨ b < w.heap.size) :
    Calls Try.prog 16 #[.int .i64 n, .slice a len cap] w fun e w' => e = .returned (.tuple #[.int .i64 (valTurnsOfBorder n xs), .bool (okTurnsOfBorder n xs)]) ∧ Below w.heap.size w w' := by
  cases hL : labB n xs
  · have H1 : Hid (valTurnsOfBorder n xs = 0 ∧ okTurnsOfBorder n xs = false) := Lib.hid (by simp [valTurnsOfBorder, okTurnsOfBorder, hL])
    have HR := Lib.hid (roomsOf_no n xs a b len cap w hn hsm h hb0 hL)
    rw [H1.out.1, H1.out.2]
    clear hL hn h hb0
    go_enter Try.func16, Try.ntmps16
    go_wp2_with fail
    refine HR.out.mono ?_
    rintro e w1 ⟨rfl, hb1⟩
    go_wp2_with (first | (with_reducible refine alloc_blk lr0 run_alloc_lr rfl rfl ?_) | ((with_reducible refine store_blk blkLR rfl _ _ rfl w1.heap.size lr0 lr0 ?_ ?_ ?_ lr0_size lr0_size lr0_one w1.heap.size (Nat.le_refl _) ?_); exact rfl; exact rfl; exact heap_alloc_new _ _; intro w3 hg3 hb3 hk3 hs3; have hB3 := bnext hb1 ((balloc (Below.refl w1.heap.size w1) (.cells lr0 53)).trans hb3)))
    go_ret2
    exact ⟨rfl, hB3⟩
  · obtain ⟨n, rfl⟩ := labB_nat hL
    obtain ⟨h1, h2, hl, hA⟩ := labB_yes hL
    have H1 : Hid (valTurnsOfBorder n xs = tn xs (bds n xs) (bds n xs).length ∧ okTurnsOfBorder n xs = true) := Lib.hid (by simp [valTurnsOfBorder, okTurnsOfBorder, hL])
    have HPT := Lib.hid (pts_filter (f := drB xs) (bps_pts n xs hL))
    have HTN := Lib.hid (tn_bd xs (bds n xs) hA (pts_filter (f := drB xs) (bps_pts n xs hL)))
    have hdl := bds_len n xs
    have HAA := Lib.hid hA
    have hcn := (Pr.cnt_le n (by omega)).1
    have hlen45 : xs.length ≤ 45 := by omega
    rw [H1.out.1, H1.out.2]
    have HR := Lib.hid (roomsOf_yes n xs a b len cap w hn hsm h hb0 hL)
    have HL := Lib.hid hL
    clear hL hn h hb0 hl hA
    go_enter Try.func16, Try.ntmps16
    go_wp2_with fail
    refine HR.out.mono ?_
    rintro e w1 ⟨R, rfl, hrv, hb1⟩
    obtain ⟨g, r, hrm, hrs, hro, hRs, hRo, r0, rk, hrj, hgb⟩ := rt_row HL.out hrv
    go_wp2_with (first | (with_reducible refine alloc_blk lr0 run_alloc_lr rfl rfl ?_) | ((with_reducible refine store_blk blkLR rfl _ _ rfl w1.heap.size R lr0 ?_ ?_ ?_ lr0_size hRs hRo w1.heap.size (Nat.le_refl _) ?_); exact rfl; exact rfl; exact heap_alloc_new _ _; intro w3 hg3 hb3 hk3 hs3; have hB13 := ((balloc (Below.refl w1.heap.size w1) (.cells lr0 53)).trans hb3)) | ((with_reducible refine load_win blkRms ?_ _ rfl (w1.heap.size) 46 ?_ R r hg3 hrj hrs ?_); exact rfl; exact rfl; simp only [Act.put, List.setIfInBounds_toArray, List.set_cons_zero, List.set_cons_succ]))
    have hz3 := (Array.getElem?_eq_some_iff.1 hg3).1
    refine (below_doors (fgr_ci HL.out) (hrm.later hB13)).mono ?_
    rintro e w4 ⟨v, rfl, hp4, hb4⟩
    have hp4' : PairV w4 w3.heap.size v (bds n xs) := hp4
    obtain ⟨pa, pc, pb, rfl, hpr⟩ := pair_shape hp4'
    have hB4 := bnext (bnext hb1 hB13) hb4
    have hg4 := (hb4.block w1.heap.size hz3).trans hg3
    have hz4 : w1.heap.size < w4.heap.size := Nat.lt_of_lt_of_le hz3 hb4.size
    have HP := Lib.hid hpr
    have HMK := Lib.hid rk
    have HG := Lib.hid hg4
    clear hp4 hp4' hpr rk hg4 hg3 hb3 hb4 hB13 hrv hb1 hrm
    go_wp2_with fail
    go_loopw [8, 23] (fun vs vc wr => ∃ k : Nat, k ≤ (bds n xs).length ∧ vc = .int .i64 k ∧ vs = .int .i64 (tn xs (bds n xs) k) ∧ Below w4.heap.size w4 wr) (fun _ vc _ => (bds n xs).length - (intOf vc).toNat)
    case atStart => exact ⟨0, Nat.zero_le _, rfl, rfl, Below.refl _ _⟩
    case round =>
      obtain ⟨k, hk, rfl, rfl, hb⟩ := hrel
      by_cases hlt : k < (bds n xs).length
      · obtain ⟨rfl, hbl, c0, c1⟩ := (HP.out.later hb) k hlt
        obtain ⟨i, j, hij, hi, hj⟩ := HPT.out k hlt
        have hij : (bds n xs).getD k (0, 0) = ((i : Int), (j : Int)) := hij
        rw [hij] at c0 c1
        have bi := allB_at HAA.out i hi
        have bj := allB_at HAA.out j hj
        have ht := HTN.out k hk
        have HE : Hid (tn xs (bds n xs) (k + 1) = tn xs (bds n xs) k + (xs.getD j 0 - xs.getD i 0)) := Lib.hid (by
          simp only [tn, hij, Int.toNat_natCast])
        obtain ⟨wi, hwi⟩ : ∃ wi : World, wi = wr := ⟨_, rfl⟩
        subst hwi
        have hzi := hb.size
        have hgi := (hb.block _ hz4).trans HG.out
        have hga : (wi.alloc (.cells #[.int .i64 i, .int .i64 j] 61)).heap[w1.heap.size]? = some (.cells R 53 (0, 0)) := (Below.heap_alloc _ _ _ (by omega)).trans hgi
        have l0 := (cell_of_row _ _ (1 + i) _ _ (0, 0) hga).trans (HMK.out i hi)
        have l1 := (cell_of_row _ _ (1 + j) _ _ (0, 0) hga).trans (HMK.out j hj)
        have p0 : (wi.alloc (.cells #[.int .i64 i, .int .i64 j] 61)).cell? ⟨wi.heap.size, 0, none⟩ = some (.int .i64 i) := by go_cell
        have p1 : (wi.alloc (.cells #[.int .i64 i, .int .i64 j] 61)).cell? ⟨wi.heap.size, 1, none⟩ = some (.int .i64 j) := by go_cell
        have hBa := hb.trans ((balloc (Below.refl wi.heap.size wi) (.cells #[.int .i64 i, .int .i64 j] 61)).mono hzi)
        have hii : (i : Int) < 45 := by omega
        have hjj : (j : Int) < 45 := by omega
        have hki : (k : Int) < ((bds n xs).length : Int) := by omega
        clear hij hgi hga
        generalize xs.getD i 0 = x at l0 bi HE
        generalize xs.getD j 0 = y at l1 bj HE
        generalize tn xs (bds n xs) k = t at ht HE ⊢
        go_wp2_with fail
        generalize wi.alloc (.cells #[.int .i64 i, .int .i64 j] 61) = w5 at l0 l1 p0 p1 hBa ⊢
        go_quiet (fail)
        go_wp2_with fail
        go_roundw
        case rel => exact ⟨k + 1, by omega, by go_num, by rw [HE.out], below_drewN hBa _⟩
        case measure => simp [intOf]; omega
      · have hk2 : k = (bds n xs).length := by omega
        rw [hk2]
        have ht := HTN.out _ (Nat.le_refl _)
        go_wp2_with fail
        go_ret2
        exact ⟨rfl, bnext hB4 hb⟩
end Go.Proofs.Ytgbfpmfennmebaa
