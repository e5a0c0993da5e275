import Derived.Test.YtjbdhgomcchoaaaTo
namespace Go.Proofs.Ytjbdhgomcchoaaa
open Go.RowKit
set_option maxHeartbeats 1600000 in
theorem implTurnsOfBorder (n : Int) (xs : List Int) (a : Option Addr) (b len cap : Nat) (w : World) (hn : xs.length = len) (hsm : len ≤ 1048576) (h : Rd w a b 0 xs) (hb0 : len = 0 ∨ b < w.heap.size) :
    Calls Try.prog 45 #[.int .i64 n, .slice a len cap] w fun e w' => e = .returned (.tuple #[.int .i64 (valTurnsOfBorder n xs), .bool (okTurnsOfBorder n xs)]) ∧ Below w.heap.size w w' := by
  cases hL : labB n xs
  · have H1 : Hid (valTurnsOfBorder n xs = 0 ∧ okTurnsOfBorder n xs = false) := Lib.hid (by simp [valTurnsOfBorder, okTurnsOfBorder, hL])
    have HR := Lib.hid (roomsOf_no n xs a b len cap w hn hsm h hb0 hL)
    rw [H1.out.1, H1.out.2]
    clear hL hn h hb0
    go_enter Try.func45, Try.ntmps45
    go_wp2_with fail
    refine HR.out.mono ?_
    rintro e w1 ⟨rfl, hb1⟩
    go_wp2_with (first | (with_reducible refine alloc_rm rfl rfl ?_) | ((with_reducible refine store_rm rfl _ _ rfl w1.heap.size zeroR zeroR ?_ ?_ ?_ zeroR_size zeroR_size zeroR_one w1.heap.size (Nat.le_refl _) ?_); exact rfl; exact rfl; exact heap_alloc_new _ _; intro w3 hg3 hb3; have hB3 := bnext hb1 ((balloc (Below.refl w1.heap.size w1) (.cells zeroR 66)).trans hb3)))
    go_ret2
    exact ⟨rfl, hB3⟩
  · obtain ⟨n, rfl⟩ := labB_nat hL
    obtain ⟨h1, h2, hl, hA⟩ := labB_yes hL
    have H1 : Hid (valTurnsOfBorder n xs = tn xs (bds n xs) (bds n xs).length ∧ okTurnsOfBorder n xs = true) := Lib.hid (by simp [valTurnsOfBorder, okTurnsOfBorder, hL])
    have HR := Lib.hid (roomsOf_yes n xs a b len cap w hn hsm h hb0 hL)
    have HL := Lib.hid hL
    have HPT := Lib.hid (pts_filter (f := drB xs) (bps_pts n xs hL))
    have HTN := Lib.hid (tn_bd xs (bds n xs) hA (pts_filter (f := drB xs) (bps_pts n xs hL)))
    have hdl := bds_len n xs
    have HAA := Lib.hid hA
    have hcn := (Pr.cnt_le n (by omega)).1
    have hlen45 : xs.length ≤ 45 := by omega
    rw [H1.out.1, H1.out.2]
    clear hL hn h hb0 hl hA
    go_enter Try.func45, Try.ntmps45
    go_wp2_with fail
    refine HR.out.mono ?_
    rintro e w1 ⟨r, rfl, hrv, hb1⟩
    obtain ⟨hsz, hone, -, hmk, -⟩ := rooms_row HL.out hrv
    go_wp2_with (first | (with_reducible refine alloc_rm rfl rfl ?_) | ((with_reducible refine store_rm rfl _ _ rfl w1.heap.size r zeroR ?_ ?_ ?_ zeroR_size hsz hone w1.heap.size (Nat.le_refl _) ?_); exact rfl; exact rfl; exact heap_alloc_new _ _; intro w3 hg3 hb3; have hB13 := ((balloc (Below.refl w1.heap.size w1) (.cells zeroR 66)).trans hb3)) | ((with_reducible refine load_rm_g ?_ _ rfl w1.heap.size ?_ r hg3 hsz ?_); exact rfl; exact rfl; simp only [Act.put, List.setIfInBounds_toArray, List.set_cons_zero, List.set_cons_succ]))
    have hz3 : w1.heap.size < w3.heap.size := by have := hb3.size; simp at this; omega
    refine (borderDoors_any n xs _ r _ HL.out (rooms_now hrv hB13)).mono ?_
    rintro e w4 ⟨v, rfl, hp4, hb4⟩
    have hp4' : PairV w4 w3.heap.size v (bds n xs) := hp4
    obtain ⟨pa, pc, pb, rfl, hpr⟩ := pair_shape hp4'
    have hB4 := bnext (bnext hb1 hB13) hb4
    have hg4 : w4.heap[w1.heap.size]? = some (.cells r 66 (0, 0)) := (hb4.block _ hz3).trans hg3
    have hz4 : w1.heap.size < w4.heap.size := Nat.lt_of_lt_of_le hz3 hb4.size
    have HP := Lib.hid hpr
    have HMK := Lib.hid hmk
    have HG := Lib.hid hg4
    clear hp4 hp4' hpr hmk hg4 hg3 hb3 hb4 hB13 hrv hb1
    go_wp2_with fail
    go_loopw [8, 22] (fun v8 v22 wr => ∃ k : Nat, k ≤ (bds n xs).length ∧ v22 = .int .i64 k ∧ v8 = .int .i64 (tn xs (bds n xs) k) ∧ Below w4.heap.size w4 wr) (fun _ v22 _ => (bds n xs).length - (intOf v22).toNat)
    case atStart => exact ⟨0, Nat.zero_le _, rfl, rfl, Below.refl _ _⟩
    case round =>
      obtain ⟨k, hk, rfl, rfl, hb⟩ := hrel
      by_cases hlt : k < (bds n xs).length
      · obtain ⟨rfl, hbl, c0, c1⟩ := (HP.out.later hb) k hlt
        obtain ⟨i, j, hij, hi, hj⟩ := HPT.out k hlt
        have hij : (bds n xs).getD k (0, 0) = ((i : Int), (j : Int)) := hij
        rw [hij] at c0 c1
        have bi := allB_at HAA.out i hi
        have bj := allB_at HAA.out j hj
        have ht := HTN.out k hk
        have HE : Hid (tn xs (bds n xs) (k + 1) = tn xs (bds n xs) k + (xs.getD j 0 - xs.getD i 0)) := Lib.hid (by
          simp only [tn, hij, Int.toNat_natCast])
        obtain ⟨wi, hwi⟩ : ∃ wi : World, wi = wr := ⟨_, rfl⟩
        subst hwi
        have hzi := hb.size
        have hgi := (hb.block _ hz4).trans HG.out
        have hga : (wi.alloc (.cells #[.int .i64 i, .int .i64 j] 70)).heap[w1.heap.size]? = some (.cells r 66 (0, 0)) := (Below.heap_alloc _ _ _ (by omega)).trans hgi
        have l0 := (cell_of_row _ _ (1 + i) _ _ (0, 0) hga).trans (HMK.out i hi)
        have l1 := (cell_of_row _ _ (1 + j) _ _ (0, 0) hga).trans (HMK.out j hj)
        have p0 : (wi.alloc (.cells #[.int .i64 i, .int .i64 j] 70)).cell? ⟨wi.heap.size, 0, none⟩ = some (.int .i64 i) := by go_cell
        have p1 : (wi.alloc (.cells #[.int .i64 i, .int .i64 j] 70)).cell? ⟨wi.heap.size, 1, none⟩ = some (.int .i64 j) := by go_cell
        have hBa := hb.trans ((balloc (Below.refl wi.heap.size wi) (.cells #[.int .i64 i, .int .i64 j] 70)).mono hzi)
        have hii : (i : Int) < 45 := by omega
        have hjj : (j : Int) < 45 := by omega
        have hki : (k : Int) < ((bds n xs).length : Int) := by omega
        clear hij hgi hga
        generalize xs.getD i 0 = x at l0 bi HE
        generalize xs.getD j 0 = y at l1 bj HE
        generalize tn xs (bds n xs) k = t at ht HE ⊢
        go_wp2_with fail
        generalize wi.alloc (.cells #[.int .i64 i, .int .i64 j] 70) = w5 at l0 l1 p0 p1 hBa ⊢
        go_quiet (fail)
        go_wp2_with fail
        go_roundw
        case rel => exact ⟨k + 1, by omega, by go_num, by rw [HE.out], below_drewN hBa _⟩
        case measure => simp [intOf]; omega
      · have hk2 : k = (bds n xs).length := by omega
        rw [hk2]
        have ht := HTN.out _ (Nat.le_refl _)
        go_wp2_with fail
        go_ret2
        exact ⟨rfl, bnext hB4 hb⟩
end Go.Proofs.Ytjbdhgomcchoaaa
