import Derived.Test.YtcahecohjmahaaaDoorYj
import Derived.Test.YtcahecohjmahaaaDoorZa
namespace Go.Proofs.YtcahecohjmahaaaDoor
open Go.RowKit
set_option maxRecDepth 4000
theorem sqB_nat {n : Int} {xs : List Int} (h : sqB n xs = true) : ∃ m : Nat, n = m ∧ 1 ≤ m ∧ m ≤ 4 ∧ xs.length = sqn m ∧ all4 xs = true := by
  obtain ⟨h1, h2, hl, hA⟩ := sqB_yes h
  obtain ⟨m, rfl⟩ := Int.eq_ofNat_of_zero_le (show 0 ≤ n by omega)
  rw [sqn_eq] at hl
  exact ⟨m, rfl, by omega, by omega, by omega, hA⟩
def outSquareDoors (n : Int) (xs : List Int) : List (List Int) := if sqB n xs then outS xs 3 (sqPs n.toNat) else []
theorem outSD_len (n : Int) (xs : List Int) : (outSquareDoors n xs).length ≤ 100000 := by
  unfold outSquareDoors
  cases hL : sqB n xs
  · simp
  · obtain ⟨m, rfl, h1, h2, -⟩ := sqB_nat hL
    have e := outS_len xs 3 (sqPs m)
    rw [sqPs_len] at e
    simp only [if_true, Int.toNat_natCast]
    omega
theorem outSD_row (n : Int) (xs : List Int) : ∀ i, i < (outSquareDoors n xs).length → ((outSquareDoors n xs).getD i []).length ≤ 1000 := by
  intro i hi
  unfold outSquareDoors at hi ⊢
  split
  · rename_i h; rw [if_pos h] at hi; exact outS_row _ _ _ i hi
  · rename_i h; rw [if_neg h] at hi; simp at hi
set_option maxHeartbeats 400000 in
theorem specSquareDoors (n : Int) (xs : List Int) (a : Option Addr) (b len cap : Nat) (w : World) (hn : xs.length = len) (hsm : len ≤ 1048576) (h : Rd w a b 0 xs) (hb0 : len = 0 ∨ b < w.heap.size) :
    Calls Tryd.prog 47 #[.int .i64 n, .slice a len cap] w (CGives w (outSquareDoors n xs) (sqB n xs)) := by
  have HM := Lib.hid (opLabels_any n xs a b 0 len cap w hn h hsm)
  cases hL : sqB n xs
  · have H1 : Hid (outSquareDoors n xs = []) := Lib.hid (by simp [outSquareDoors, hL])
    rw [hL] at HM
    rw [H1.out]
    clear hL h
    go_enter Tryd.func47, Tryd.ntmps47
    go_wp2_with fail
    refine HM.out.mono ?_
    rintro e w1 ⟨rfl, rfl⟩
    go_wp2_with fail
    go_ret2
    exact cgives_none (Below.refl _ _)
  · obtain ⟨n, rfl, -⟩ := sqB_nat hL
    have H1 : Hid (outSquareDoors n xs = outS xs 3 (sqPs n)) := Lib.hid (by simp [outSquareDoors, hL])
    have HA := Lib.hid (opDoors_any n xs a b len cap w hn h hb0 hL)
    rw [hL] at HM
    rw [H1.out]
    clear hL h
    go_enter Tryd.func47, Tryd.ntmps47
    go_wp2_with fail
    refine HM.out.mono ?_
    rintro e w1 ⟨rfl, rfl⟩
    go_wp2_with fail
    refine HA.out.mono ?_
    rintro e w1 ⟨v, rfl, hc, hb⟩
    obtain ⟨ta, tm, tc, rfl⟩ := cells_shape hc
    go_wp2_with fail
    go_ret2
    exact ⟨_, rfl, hc, hb⟩
set_option maxHeartbeats 800000 in
theorem implSquareDoors (n : Int) (xs : List Int) (a : Option Addr) (b len cap : Nat) (w : World) (hn : xs.length = len) (hsm : len ≤ 1048576) (h : Rd w a b 0 xs) (hb0 : len = 0 ∨ b < w.heap.size) :
    Calls Tryd.prog 46 #[.int .i64 n, .slice a len cap] w (CGives w (outSquareDoors n xs) (sqB n xs)) := by
  cases hL : sqB n xs
  · have H1 : Hid (outSquareDoors n xs = []) := Lib.hid (by simp [outSquareDoors, hL])
    have HR := Lib.hid (lsqOf_no n xs a b len cap w hn h hb0 hsm hL)
    rw [H1.out]
    clear hL hn h hb0
    go_enter Tryd.func46, Tryd.ntmps46
    go_wp2_with fail
    refine HR.out.mono ?_
    rintro e w1 ⟨rfl, hb1⟩
    unfold lq0
    go_wp2_with fail
    go_ret2
    exact cgives_none (balloc hb1 _)
  · have H1' := hL
    obtain ⟨n, rfl, h1, h2, hl, hA⟩ := sqB_nat hL
    have H1 : Hid (outSquareDoors n xs = outS xs 3 (sqPs n)) := Lib.hid (by simp [outSquareDoors, hL])
    have HR := Lib.hid (lsqOf_yes n xs a b len cap w hn h hb0 hsm hL)
    have HPT : Hid (PtsB len (sqPs n)) := Lib.hid (by rw [← hn, hl]; exact sqPs_pts n h2)
    have HAS := Lib.hid (fun W (hB : Below w.heap.size w W) => door_asks n xs a b len cap W hn (h.later hn hb0 hB) (by have := hB.size; omega) hA (sqPs n) HPT.out)
    have HO : Hid (outS xs 3 (sqPs n) = ((sqPs n).filter (sumB xs 3)).map lst) := Lib.hid rfl
    have HPL := Lib.hid (sqPs_len n)
    have hfl : ((sqPs n).filter (sumB xs 3)).length ≤ 8 * n := by rw [← HPL.out]; exact List.length_filter_le _ _
    rw [H1.out]
    clear hL H1' hn h hb0 hA hl
    go_enter Tryd.func46, Tryd.ntmps46
    go_wp2_with fail
    refine HR.out.mono ?_
    rintro e w1 ⟨rfl, hb1⟩
    have hB1 := balloc hb1 (.cells (lqA n a len cap) 61)
    unfold lqA at hB1 ⊢
    go_wp2_with fail
    refine (sqRooms_any n a len cap h1 h2 _).mono ?_
    rintro e w2 ⟨r, rfl, hr2, hb2⟩
    have hB2 := bnext hB1 hb2
    go_wp2_with fail
    refine (borderDoors_any _ _ _ (sumB xs 3) _ _ (sqPs n) r _ isDoor_cf (HAS.out _ hB2) hr2 (by rw [HPL.out]; omega)).mono ?_
    rintro e w4 ⟨v, rfl, hp4, hb4⟩
    obtain ⟨pa, pc, pb, rfl, hpr⟩ := pair_shape hp4
    have hB4 := bnext hB2 hb4
    go_wp2_with fail
    refine (listsOf_any _ pa pb pc _ hpr (by omega)).mono ?_
    rintro e w5 ⟨v, rfl, hc5, hb5⟩
    rw [← HO.out] at hc5
    obtain ⟨ta, tm, tc, rfl⟩ := cells_shape hc5
    go_wp2_with fail
    go_ret2
    exact ⟨_, rfl, cells_base hc5 hB4.size, bnext hB4 hb5⟩
end Go.Proofs.YtcahecohjmahaaaDoor
