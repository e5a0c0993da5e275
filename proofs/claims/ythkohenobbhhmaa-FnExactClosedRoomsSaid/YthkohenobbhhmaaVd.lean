import Derived.Test.YthkohenobbhhmaaZh
namespace Go.Proofs.Ythkohenobbhhmaa
open Go.RowKit
set_option maxRecDepth 4000
set_option maxHeartbeats 1600000 in
theorem implWalkFrom (n : Int) (xs : List Int) (i j : Int) (a : Option Addr) (b len cap : Nat) (w : World) (hn : xs.length = len) (hsm : len ≤ 1048576) (h : Rd w a b 0 xs) (hb0 : len = 0 ∨ b < w.heap.size) :
    Calls Try.prog 13 #[.int .i64 n, .slice a len cap, .int .i64 i, .int .i64 j] w (Gives3 w (valWalk n xs i j) (fullWalk n xs i j) (okW n xs i j)) := by
  cases hok : okW n xs i j
  · have H1 : Hid (valWalk n xs i j = [] ∧ fullWalk n xs i j = false) := Lib.hid (by simp [valWalk, fullWalk, hok])
    have HW := Lib.hid (walkFromBorder_no n xs i j a b len cap w hn hsm h hb0 hok)
    rw [H1.out.1, H1.out.2]
    clear hok h hb0
    go_enter Try.func13, Try.ntmps13
    go_wp2_with fail
    refine HW.out.mono ?_
    rintro e w1 ⟨rfl, hb1⟩
    go_wp2_with (first
      | (with_reducible refine alloc_blk zeroW run_alloc_wk rfl rfl ?_)
      | ((with_reducible refine store_blk blkWalk rfl _ _ rfl w1.heap.size zeroW zeroW ?_ ?_ ?_ zeroW_size zeroW_size zeroW_one w1.heap.size (Nat.le_refl _) ?_); exact rfl; exact rfl; exact heap_alloc_new _ _; intro w3 hg3 hb3 hk3 hs3; have hB3 := bnext hb1 ((balloc (Below.refl w1.heap.size w1) (.cells zeroW 56)).trans hb3)))
    go_returns
    exact gives3_none hB3
  · have hok2 := hok
    obtain ⟨n, rfl, hL, -⟩ := okW_yes hok
    have H1 : Hid (valWalk n xs i j = ints (wfrom xs n (-1) (inner (i, j))).1 ∧ fullWalk n xs i j = (wfrom xs n (-1) (inner (i, j))).2.2) := Lib.hid (by simp [valWalk, fullWalk, hok2])
    have HW := Lib.hid (walkFromBorder_yes n xs i j a b len cap w hn hsm h hb0 hok)
    rw [H1.out.1, H1.out.2]
    have HL := Lib.hid hL
    clear hok hok2 h hL hb0 H1
    generalize (wfrom xs n (-1) (inner (i, j))) = W at HW ⊢
    obtain ⟨L, D, f⟩ := W
    simp only at HW ⊢
    go_enter Try.func13, Try.ntmps13
    go_wp2_with fail
    refine HW.out.mono ?_
    rintro e w1 ⟨r, pv, u, v, rfl, hrv, ho1, -, hb1⟩
    obtain ⟨hsz, hone, -⟩ := rooms_row HL.out hrv
    have ho1 := own_num ho1 (ints_len L).symm
    obtain ⟨-, pa, pc, pb, rfl, -⟩ := own_shape ho1
    have hwz : Hid ((wkA r (.slice pa (ints L).length pc) u v f).size = 52 ∧ (wkA r (.slice pa (ints L).length pc) u v f).all (·.oneCell') = true) := Lib.hid ⟨wkA_size _ _ _ _ _ hsz, wkA_one _ _ _ _ _ _ _ hone⟩
    clear hrv hone
    go_wp2_with (first
      | (with_reducible refine alloc_blk zeroW run_alloc_wk rfl rfl ?_)
      | ((with_reducible refine store_blk blkWalk rfl _ _ rfl w1.heap.size (wkA r (.slice pa (ints L).length pc) u v f) zeroW ?_ ?_ ?_ zeroW_size hwz.out.1 hwz.out.2 w1.heap.size (Nat.le_refl _) ?_); exact rfl; exact rfl; exact heap_alloc_new _ _; intro w3 hg3 hb3 hk3 hs3; have hB13 := ((balloc (Below.refl w1.heap.size w1) (.cells zeroW 56)).trans hb3)))
    have q48 := blk_cell hg3 48 _ (wk_at hsz _ _ _ _ 0)
    have q51 := blk_cell hg3 51 _ (wk_at hsz _ _ _ _ 3)
    have ho3 := own_now ho1 hB13
    have hB3 := bnext hb1 hB13
    clear hg3 hb3 hk3 hs3 hB13 ho1
    go_quiet (fail)
    go_wp2_with fail
    go_returns
    exact gives3_of rfl (own_now ho3 (below_drewN (Below.refl _ _) _)) (below_drewN hB3 _)
theorem valWalk_len (n : Int) (xs : List Int) (i j : Int) : (valWalk n xs i j).length ≤ 1000 := by
  unfold valWalk
  split
  · rename_i hok
    obtain ⟨n, rfl, hL, -⟩ := okW_yes hok
    have := wfrom_len xs n (-1) (inner (i, j))
    have := ci_bd n (labB_yes hL).2.1
    rw [ints_len]
    simp only [Int.toNat_natCast]
    omega
  · simp
end Go.Proofs.Ythkohenobbhhmaa
