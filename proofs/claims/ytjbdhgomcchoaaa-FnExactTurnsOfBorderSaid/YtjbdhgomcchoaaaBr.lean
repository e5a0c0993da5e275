import Derived.Test.YtjbdhgomcchoaaaBq
namespace Go.Proofs.Ytjbdhgomcchoaaa
open Go.RowKit
def outBorderDoors (n : Int) (xs : List Int) : List (List Int) := if labB n xs then outp xs (bps n.toNat (3 * n.toNat)) else []
theorem outBorder_len (n : Int) (xs : List Int) : (outBorderDoors n xs).length ≤ 100000 := by
  unfold outBorderDoors
  cases hL : labB n xs
  · simp
  · obtain ⟨n, rfl⟩ := labB_nat hL
    obtain ⟨h1, h2, -, -⟩ := labB_yes hL
    have e := outp_len xs (bps n (3 * n))
    rw [bps_len] at e
    simp only [if_true, Int.toNat_natCast]
    omega
theorem outBorder_row (n : Int) (xs : List Int) : ∀ i, i < (outBorderDoors n xs).length → ((outBorderDoors n xs).getD i []).length ≤ 1000 := by
  intro i hi
  unfold outBorderDoors at hi ⊢
  split
  · rename_i h; rw [if_pos h] at hi; exact outp_row _ _ i hi
  · rename_i h; rw [if_neg h] at hi; simp at hi
set_option maxHeartbeats 400000 in
theorem specBorderDoors (n : Int) (xs : List Int) (a : Option Addr) (b len cap : Nat) (w : World) (hn : xs.length = len) (h : Rd w a b 0 xs) (hb0 : len = 0 ∨ b < w.heap.size) :
    Calls Try.prog 32 #[.int .i64 n, .slice a len cap] w (CGives w (outBorderDoors n xs) (labB n xs)) := by
  have HM := Lib.hid (meLabels_any n xs a b 0 len cap w hn h)
  cases hL : labB n xs
  · have H1 : Hid (outBorderDoors n xs = []) := Lib.hid (by simp [outBorderDoors, hL])
    rw [hL] at HM
    rw [H1.out]
    clear hL h
    go_enter Try.func32, Try.ntmps32
    go_wp2_with fail
    refine HM.out.mono ?_
    rintro e w1 ⟨rfl, rfl⟩
    go_wp2_with fail
    go_ret2
    exact cgives_none (Below.refl _ _)
  · obtain ⟨n, rfl⟩ := labB_nat hL
    have H1 : Hid (outBorderDoors n xs = outp xs (bps n (3 * n))) := Lib.hid (by simp [outBorderDoors, hL])
    have HA := Lib.hid (doBorder_any n xs a b len cap w hn h hb0 hL)
    rw [hL] at HM
    rw [H1.out]
    clear hL h
    go_enter Try.func32, Try.ntmps32
    go_wp2_with fail
    refine HM.out.mono ?_
    rintro e w1 ⟨rfl, rfl⟩
    go_wp2_with fail
    refine HA.out.mono ?_
    rintro e w1 ⟨v, rfl, hc, hb⟩
    obtain ⟨ta, tm, tc, rfl⟩ := cells_shape hc
    go_wp2_with fail
    go_ret2
    exact ⟨_, rfl, hc, hb⟩
set_option maxHeartbeats 800000 in
theorem implBorderDoors (n : Int) (xs : List Int) (a : Option Addr) (b len cap : Nat) (w : World) (hn : xs.length = len) (hsm : len ≤ 1048576) (h : Rd w a b 0 xs) (hb0 : len = 0 ∨ b < w.heap.size) :
    Calls Try.prog 33 #[.int .i64 n, .slice a len cap] w (CGives w (outBorderDoors n xs) (labB n xs)) := by
  cases hL : labB n xs
  · have H1 : Hid (outBorderDoors n xs = []) := Lib.hid (by simp [outBorderDoors, hL])
    have HR := Lib.hid (roomsOf_no n xs a b len cap w hn hsm h hb0 hL)
    rw [H1.out]
    clear hL hn h hb0
    go_enter Try.func33, Try.ntmps33
    go_wp2_with fail
    refine HR.out.mono ?_
    rintro e w1 ⟨rfl, hb1⟩
    go_wp2_with (first | (with_reducible refine alloc_rm rfl rfl ?_) | ((with_reducible refine store_rm rfl _ _ rfl w1.heap.size zeroR zeroR ?_ ?_ ?_ zeroR_size zeroR_size zeroR_one w1.heap.size (Nat.le_refl _) ?_); exact rfl; exact rfl; exact heap_alloc_new _ _; intro w3 hg3 hb3; have hB3 := bnext hb1 ((balloc (Below.refl w1.heap.size w1) (.cells zeroR 66)).trans hb3)))
    go_ret2
    exact cgives_none hB3
  · obtain ⟨n, rfl⟩ := labB_nat hL
    obtain ⟨h1, h2, -, -⟩ := labB_yes hL
    have H1 : Hid (outBorderDoors n xs = outp xs (bps n (3 * n))) := Lib.hid (by simp [outBorderDoors, hL])
    have HR := Lib.hid (roomsOf_yes n xs a b len cap w hn hsm h hb0 hL)
    have HL := Lib.hid hL
    have hfl : ((bps n (3 * n)).filter (drB xs)).length ≤ 3 * n := Nat.le_trans (List.length_filter_le _ _) (by rw [bps_len]; exact Nat.le_refl _)
    have HO : Hid (outp xs (bps n (3 * n)) = ((bps n (3 * n)).filter (drB xs)).map lst) := Lib.hid rfl
    rw [H1.out]
    clear hL hn h hb0
    go_enter Try.func33, Try.ntmps33
    go_wp2_with fail
    refine HR.out.mono ?_
    rintro e w1 ⟨r, rfl, hrv, hb1⟩
    obtain ⟨hsz, hone, -⟩ := rooms_row HL.out hrv
    go_wp2_with (first | (with_reducible refine alloc_rm rfl rfl ?_) | ((with_reducible refine store_rm rfl _ _ rfl w1.heap.size r zeroR ?_ ?_ ?_ zeroR_size hsz hone w1.heap.size (Nat.le_refl _) ?_); exact rfl; exact rfl; exact heap_alloc_new _ _; intro w3 hg3 hb3; have hB13 := ((balloc (Below.refl w1.heap.size w1) (.cells zeroR 66)).trans hb3)) | ((with_reducible refine load_rm_g ?_ _ rfl w1.heap.size ?_ r hg3 hsz ?_); exact rfl; exact rfl; simp only [Act.put, List.setIfInBounds_toArray, List.set_cons_zero, List.set_cons_succ]))
    refine (borderDoors_any n xs _ r _ HL.out (rooms_now hrv hB13)).mono ?_
    rintro e w4 ⟨v, rfl, hp4, hb4⟩
    obtain ⟨pa, pc, pb, rfl, hpr⟩ := pair_shape hp4
    have hB4 := bnext (bnext hb1 hB13) hb4
    go_wp2_with fail
    refine (listsOf_any _ pa pb pc _ hpr (by omega)).mono ?_
    rintro e w5 ⟨v, rfl, hc5, hb5⟩
    rw [← HO.out] at hc5
    obtain ⟨ta, tm, tc, rfl⟩ := cells_shape hc5
    go_wp2_with fail
    go_ret2
    exact ⟨_, rfl, cells_base hc5 hB4.size, bnext hB4 hb5⟩
end Go.Proofs.Ytjbdhgomcchoaaa
