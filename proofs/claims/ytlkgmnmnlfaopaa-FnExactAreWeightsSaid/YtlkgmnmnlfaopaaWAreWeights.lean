import Derived.Test.YtlkgmnmnlfaopaaQ2
import Derived.Test.YtlkgmnmnlfaopaaZk
namespace Go.Proofs.Ytlkgmnmnlfaopaa
open Go.RowKit
set_option maxRecDepth 4000
def OutAreWeights (w : World) (r0 : Bool) (r1 : Bool) (e : Ending) (w' : World) : Prop := e = .returned (.tuple #[.bool r0, .bool r1]) ∧ Below w.heap.size w w'
set_option maxHeartbeats 3200000 in
theorem lawOf_AreWeights (xs : List Int) (a_xs : Option Addr) (c_xs : Nat) (n : Int) (w : World) (h_xs : RdS w w.heap.size a_xs xs) (r0 : Bool) (r1 : Bool)
    (hs : ∀ (a_xs' : Option Addr) (c_xs' : Nat) (w' : World), xs.length ≤ 1048576 → RdS w' w'.heap.size a_xs' xs → Calls Try.prog 20 #[.slice a_xs' xs.length c_xs', .int .i64 n] w' (OutAreWeights w' r0 r1))
    (hi : ∀ (a_xs' : Option Addr) (c_xs' : Nat) (w' : World), xs.length ≤ 1048576 → RdS w' w'.heap.size a_xs' xs → Calls Try.prog 22 #[.slice a_xs' xs.length c_xs', .int .i64 n] w' (OutAreWeights w' r0 r1)) :
    Calls Try.prog 4 #[.slice a_xs xs.length c_xs, .int .i64 n] w fun e w' => e = .returned (.bool true) ∧ Below w.heap.size w w' := by
  have HS := Lib.hid hs
  have HI := Lib.hid hi
  clear hs hi
  have hne0 : (r0 != r0) = false := by simp
  have hne1 : (r1 != r1) = false := by simp
  have hB0 : Below w.heap.size w w := Below.refl _ _
  by_cases hbig_xs : (1048576 : Int) < (xs.length : Int)
  · go_enter Try.func4, Try.ntmps4
    go_wp2_with fail
    go_ret
    exact ⟨rfl, Below.refl _ _⟩
  have hsz_xs : xs.length ≤ 1048576 := by omega
  go_enter Try.func4, Try.ntmps4
  go_wp2_with fail
  refine (toIntS_rd xs a_xs c_xs _ _ h_xs (by omega) hsz_xs).mono ?_
  rintro e w1 ⟨v_xsp, rfl, o_xsp, hb⟩
  have hc := chg_below hb
  clear hb
  have z1 := hc.size
  replace h_xs := rds_chg h_xs hc (by omega) (by omega)
  replace hB0 := below_chg hB0 hc (by omega) (by omega)
  clear hc
  obtain ⟨a_xsp, c_xsp, _, rfl, -, rd_xsp⟩ := oi_shape o_xsp
  go_wp2_with fail
  refine (HS.out a_xsp c_xsp _ hsz_xs (rds_mono rd_xsp (by omega))).mono ?_
  rintro e w2 ⟨rfl, hb⟩
  have hc := chg_below hb
  clear hb
  clear rd_xsp
  have z2 := hc.size
  replace h_xs := rds_chg h_xs hc (by omega) (by omega)
  replace o_xsp := oi_keep o_xsp hc (by omega) (by omega)
  replace hB0 := below_chg hB0 hc (by omega) (by omega)
  clear hc
  go_wp2_with fail
  clear o_xsp
  refine (toIntS_rd xs a_xs c_xs _ _ h_xs (by omega) hsz_xs).mono ?_
  rintro e w3 ⟨v_xsx, rfl, o_xsx, hb⟩
  have hc := chg_below hb
  clear hb
  have z3 := hc.size
  replace h_xs := rds_chg h_xs hc (by omega) (by omega)
  replace hB0 := below_chg hB0 hc (by omega) (by omega)
  clear hc
  obtain ⟨a_xsx, c_xsx, _, rfl, -, rd_xsx⟩ := oi_shape o_xsx
  go_wp2_with fail
  refine (HI.out a_xsx c_xsx _ hsz_xs (rds_mono rd_xsx (by omega))).mono ?_
  rintro e w4 ⟨rfl, hb⟩
  have hc := chg_below hb
  clear hb
  clear rd_xsx
  have z4 := hc.size
  replace h_xs := rds_chg h_xs hc (by omega) (by omega)
  replace o_xsx := oi_keep o_xsx hc (by omega) (by omega)
  replace hB0 := below_chg hB0 hc (by omega) (by omega)
  clear hc
  go_wp2_with fail
  refine (toIntS_rd xs a_xs c_xs _ _ h_xs (by omega) hsz_xs).mono ?_
  rintro e w5 ⟨v_xsy, rfl, o_xsy, hb⟩
  have hc := chg_below hb
  clear hb
  have z5 := hc.size
  replace h_xs := rds_chg h_xs hc (by omega) (by omega)
  replace o_xsx := oi_keep o_xsx hc (by omega) (by omega)
  replace hB0 := below_chg hB0 hc (by omega) (by omega)
  clear hc
  obtain ⟨a_xsy, c_xsy, -, rfl, -⟩ := oi_shape o_xsy
  go_wp2_with fail
  refine (eqIntS_rd xs a_xsx a_xsy _ _ c_xsx c_xsy _ (oi_rds o_xsx) (oi_rds o_xsy)).mono ?_
  rintro e w6 ⟨rfl, hs⟩
  have hc := chg_same hs
  clear hs
  have z6 := hc.size
  replace h_xs := rds_chg h_xs hc (by omega) (by omega)
  replace o_xsx := oi_keep o_xsx hc (by omega) (by omega)
  replace o_xsy := oi_keep o_xsy hc (by omega) (by omega)
  replace hB0 := below_chg hB0 hc (by omega) (by omega)
  clear hc
  go_wp2_with fail
  clear o_xsy
  go_ret
  exact ⟨rfl, hB0⟩
def awB (n : Int) (xs : List Int) : Bool := decide (1 ≤ n ∧ n ≤ 3) && wB n 1000000 xs
set_option maxHeartbeats 400000 in
theorem specAreWeights (xs : List Int) (n : Int) (a : Option Addr) (cap B : Nat) (w : World) (h : RdS w B a xs) :
    Calls Try.prog 20 #[.slice a xs.length cap, .int .i64 n] w (OutAreWeights w (awB n xs) (decide (1 ≤ n ∧ n ≤ 3))) := by
  have HM := Lib.hid (gmWeights_any xs n a cap B w h)
  clear h
  by_cases hn : 1 ≤ n ∧ n ≤ 3
  · have HE : Hid (awB n xs = wB n 1000000 xs ∧ decide (1 ≤ n ∧ n ≤ 3) = true) := Lib.hid ⟨by simp [awB, hn], by simp [hn]⟩
    rw [HE.out.1, HE.out.2]
    go_enter Try.func20, Try.ntmps20
    go_wp2_with fail
    refine (l1In_yes n 1 3 hn _).mono ?_
    rintro e w' ⟨rfl, rfl⟩
    go_wp2_with fail
    refine HM.out.mono ?_
    rintro e w' ⟨rfl, rfl⟩
    go_wp2_with fail
    go_returns
    exact ⟨rfl, Below.refl _ _⟩
  · have HE : Hid (awB n xs = false ∧ decide (1 ≤ n ∧ n ≤ 3) = false) := Lib.hid ⟨by simp [awB]; omega, by simpa using hn⟩
    rw [HE.out.1, HE.out.2]
    go_enter Try.func20, Try.ntmps20
    go_wp2_with fail
    refine (l1In_no n 1 3 hn _).mono ?_
    rintro e w' ⟨rfl, rfl⟩
    go_wp2_with fail
    go_returns
    exact ⟨rfl, Below.refl _ _⟩
theorem isCount_any (n : Int) (w : World) : Calls Try.prog 57 #[.int .i64 n] w fun e w' => e = .returned (.bool (decide (1 ≤ n ∧ n ≤ 3))) ∧ w = w' := by
  by_cases h1 : 1 ≤ n
  · by_cases h2 : n ≤ 3
    · have HE : Hid (decide (1 ≤ n ∧ n ≤ 3) = true) := Lib.hid (by simp [h1, h2])
      rw [HE.out]
      go_enter Try.func57, Try.ntmps57
      go_wp2_with fail
      go_ret
      exact ⟨ret_bool (by simp), rfl⟩
    · have HE : Hid (decide (1 ≤ n ∧ n ≤ 3) = false) := Lib.hid (by simp [h2])
      rw [HE.out]
      go_enter Try.func57, Try.ntmps57
      go_wp2_with fail
      go_ret
      exact ⟨ret_bool (by simp), rfl⟩
  · have HE : Hid (decide (1 ≤ n ∧ n ≤ 3) = false) := Lib.hid (by simp [h1])
    rw [HE.out]
    go_enter Try.func57, Try.ntmps57
    go_wp2_with fail
    go_ret
    exact ⟨ret_bool rfl, rfl⟩
set_option maxHeartbeats 400000 in
theorem implAreWeights (xs : List Int) (n : Int) (a : Option Addr) (cap B : Nat) (w : World) (h : RdS w B a xs) :
    Calls Try.prog 22 #[.slice a xs.length cap, .int .i64 n] w (OutAreWeights w (awB n xs) (decide (1 ≤ n ∧ n ≤ 3))) := by
  by_cases hn : 1 ≤ n ∧ n ≤ 3
  · have HM := Lib.hid (areChances_any xs n 1000000 hn.1 hn.2 (by omega) a cap B w h)
    have HE : Hid (awB n xs = wB n 1000000 xs ∧ decide (1 ≤ n ∧ n ≤ 3) = true) := Lib.hid ⟨by simp [awB, hn], by simp [hn]⟩
    have HI := Lib.hid (isCount_any n w)
    rw [HE.out.2] at HI
    rw [HE.out.1, HE.out.2]
    clear h hn
    go_enter Try.func22, Try.ntmps22
    go_wp2_with fail
    refine HI.out.mono ?_
    rintro e w' ⟨rfl, rfl⟩
    go_wp2_with fail
    refine HM.out.mono ?_
    rintro e w' ⟨rfl, hs⟩
    go_wp2_with fail
    go_returns
    exact ⟨rfl, hs _⟩
  · have HE : Hid (awB n xs = false ∧ decide (1 ≤ n ∧ n ≤ 3) = false) := Lib.hid ⟨by simp [awB]; omega, by simpa using hn⟩
    have HI := Lib.hid (isCount_any n w)
    rw [HE.out.2] at HI
    rw [HE.out.1, HE.out.2]
    clear h hn
    go_enter Try.func22, Try.ntmps22
    go_wp2_with fail
    refine HI.out.mono ?_
    rintro e w' ⟨rfl, rfl⟩
    go_wp2_with fail
    go_returns
    exact ⟨rfl, Below.refl _ _⟩
theorem law_AreWeights (w : World) (xs : List Int) (a_xs : Option Addr) (c_xs : Nat) (h_xs : RdS w w.heap.size a_xs xs) (n : Int) (_ : (Lit.int .i64 n).wf = true) :
    Calls Try.prog 4 #[.slice a_xs xs.length c_xs, .int .i64 n] w fun e w' => e = .returned (.bool true) ∧ Below w.heap.size w w' :=
  lawOf_AreWeights xs a_xs c_xs n w h_xs _ _ (fun a c w _ h => specAreWeights xs n a c _ w h) (fun a c w _ h => implAreWeights xs n a c _ w h)
end Go.Proofs.Ytlkgmnmnlfaopaa
