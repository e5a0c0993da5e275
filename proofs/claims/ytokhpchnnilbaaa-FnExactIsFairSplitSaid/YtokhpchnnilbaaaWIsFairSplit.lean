import Derived.Test.YtokhpchnnilbaaaN11
namespace Go.Proofs.Ytokhpchnnilbaaa
open Go.RowKit
set_option maxRecDepth 4000
def OutIsFairSplit (w : World) (r0 : Bool) (r1 : Bool) (e : Ending) (w' : World) : Prop := e = .returned (.tuple #[.bool r0, .bool r1]) ∧ Below w.heap.size w w'
set_option maxHeartbeats 3200000 in
theorem lawOf_IsFairSplit (s : ByteArray) (cuts : List Int) (a_cuts : Option Addr) (c_cuts : Nat) (w : World) (h_cuts : RdS w w.heap.size a_cuts cuts) (r0 : Bool) (r1 : Bool)
    (hs : ∀ (a_cuts' : Option Addr) (c_cuts' : Nat) (w' : World), s.size ≤ 1048576 → cuts.length ≤ 1048576 → RdS w' w'.heap.size a_cuts' cuts → Calls Try.prog 27 #[.string s, .slice a_cuts' cuts.length c_cuts'] w' (OutIsFairSplit w' r0 r1))
    (hi : ∀ (a_cuts' : Option Addr) (c_cuts' : Nat) (w' : World), s.size ≤ 1048576 → cuts.length ≤ 1048576 → RdS w' w'.heap.size a_cuts' cuts → Calls Try.prog 28 #[.string s, .slice a_cuts' cuts.length c_cuts'] w' (OutIsFairSplit w' r0 r1)) :
    Calls Try.prog 7 #[.string s, .slice a_cuts cuts.length c_cuts] w fun e w' => e = .returned (.bool true) ∧ Below w.heap.size w w' := by
  have HS := Lib.hid hs
  have HI := Lib.hid hi
  clear hs hi
  have hne0 : (r0 != r0) = false := by simp
  have hne1 : (r1 != r1) = false := by simp
  have hB0 : Below w.heap.size w w := Below.refl _ _
  by_cases hbig_s : (1048576 : Int) < (s.size : Int)
  · go_enter Try.func7, Try.ntmps7
    go_wp2_with fail
    go_ret
    exact ⟨rfl, Below.refl _ _⟩
  have hsz_s : s.size ≤ 1048576 := by omega
  by_cases hbig_cuts : (1048576 : Int) < (cuts.length : Int)
  · go_enter Try.func7, Try.ntmps7
    go_wp2_with fail
    go_ret
    exact ⟨rfl, Below.refl _ _⟩
  have hsz_cuts : cuts.length ≤ 1048576 := by omega
  go_enter Try.func7, Try.ntmps7
  go_wp2_with fail
  refine (toIntS_rd cuts a_cuts c_cuts _ _ h_cuts (by omega) hsz_cuts).mono ?_
  rintro e w1 ⟨v_cutsp, rfl, o_cutsp, hb⟩
  have hc := chg_below hb
  clear hb
  have z1 := hc.size
  replace h_cuts := rds_chg h_cuts hc (by omega) (by omega)
  replace hB0 := below_chg hB0 hc (by omega) (by omega)
  clear hc
  obtain ⟨a_cutsp, c_cutsp, _, rfl, -, rd_cutsp⟩ := oi_shape o_cutsp
  go_wp2_with fail
  refine (HS.out a_cutsp c_cutsp _ hsz_s hsz_cuts (rds_mono rd_cutsp (by omega))).mono ?_
  rintro e w2 ⟨rfl, hb⟩
  have hc := chg_below hb
  clear hb
  clear rd_cutsp
  have z2 := hc.size
  replace h_cuts := rds_chg h_cuts hc (by omega) (by omega)
  replace o_cutsp := oi_keep o_cutsp hc (by omega) (by omega)
  replace hB0 := below_chg hB0 hc (by omega) (by omega)
  clear hc
  go_wp2_with fail
  clear o_cutsp
  refine (toIntS_rd cuts a_cuts c_cuts _ _ h_cuts (by omega) hsz_cuts).mono ?_
  rintro e w3 ⟨v_cutsx, rfl, o_cutsx, hb⟩
  have hc := chg_below hb
  clear hb
  have z3 := hc.size
  replace h_cuts := rds_chg h_cuts hc (by omega) (by omega)
  replace hB0 := below_chg hB0 hc (by omega) (by omega)
  clear hc
  obtain ⟨a_cutsx, c_cutsx, _, rfl, -, rd_cutsx⟩ := oi_shape o_cutsx
  go_wp2_with fail
  refine (HI.out a_cutsx c_cutsx _ hsz_s hsz_cuts (rds_mono rd_cutsx (by omega))).mono ?_
  rintro e w4 ⟨rfl, hb⟩
  have hc := chg_below hb
  clear hb
  clear rd_cutsx
  have z4 := hc.size
  replace h_cuts := rds_chg h_cuts hc (by omega) (by omega)
  replace o_cutsx := oi_keep o_cutsx hc (by omega) (by omega)
  replace hB0 := below_chg hB0 hc (by omega) (by omega)
  clear hc
  go_wp2_with fail
  refine (toIntS_rd cuts a_cuts c_cuts _ _ h_cuts (by omega) hsz_cuts).mono ?_
  rintro e w5 ⟨v_cutsy, rfl, o_cutsy, hb⟩
  have hc := chg_below hb
  clear hb
  have z5 := hc.size
  replace h_cuts := rds_chg h_cuts hc (by omega) (by omega)
  replace o_cutsx := oi_keep o_cutsx hc (by omega) (by omega)
  replace hB0 := below_chg hB0 hc (by omega) (by omega)
  clear hc
  obtain ⟨a_cutsy, c_cutsy, -, rfl, -⟩ := oi_shape o_cutsy
  go_wp2_with fail
  refine (eqIntS_rd cuts a_cutsx a_cutsy _ _ c_cutsx c_cutsy _ (oi_rds o_cutsx) (oi_rds o_cutsy)).mono ?_
  rintro e w6 ⟨rfl, hs⟩
  have hc := chg_same hs
  clear hs
  have z6 := hc.size
  replace h_cuts := rds_chg h_cuts hc (by omega) (by omega)
  replace o_cutsx := oi_keep o_cutsx hc (by omega) (by omega)
  replace o_cutsy := oi_keep o_cutsy hc (by omega) (by omega)
  replace hB0 := below_chg hB0 hc (by omega) (by omega)
  clear hc
  go_wp2_with fail
  clear o_cutsy
  go_ret
  exact ⟨rfl, hB0⟩
def faV (s : ByteArray) (cuts : List Int) : Bool := cutV s cuts && fairB s cuts
theorem faV_yes {s : ByteArray} {cuts : List Int} (h : cutV s cuts = true) : faV s cuts = fairB s cuts := by simp [faV, h]
theorem faV_no {s : ByteArray} {cuts : List Int} (h : cutV s cuts = false) : faV s cuts = false := by simp [faV, h]
theorem cutV_goodF {s : ByteArray} {cuts : List Int} (h : cutV s cuts = true) : goodS s = true := by
  simp only [cutV, Bool.and_eq_true] at h; exact h.1
set_option maxHeartbeats 800000 in
theorem specFair_any (s : ByteArray) (cuts : List Int) (a : Option Addr) (cap : Nat) (w : World) (hr : RdS w w.heap.size a cuts) : Calls Try.prog 27 #[.string s, .slice a cuts.length cap] w (OutIsFairSplit w (faV s cuts) (cutV s cuts)) := by
  have HG := Lib.hid (nlCuts_any s cuts a cap _ w hr)
  cases h : cutV s cuts
  · have HV := Lib.hid (faV_no h)
    rw [h] at HG
    rw [HV.out]
    clear h hr
    go_enter Try.func27, Try.ntmps27
    go_wp2_with fail
    refine HG.out.mono ?_
    rintro e w' ⟨rfl, hs⟩
    have hb := hs w.heap.size
    go_wp2_with fail
    go_returns
    exact ⟨rfl, hb⟩
  · have HK : Hid (∀ w', Same w w' → _) := Lib.hid (fun w' (hs : Same w w') => nlFair_any s (cutV_goodF h) cuts a cap w' (rds_mono (rds_same hr hs) (hs w.heap.size).size))
    have HV := Lib.hid (faV_yes h)
    rw [h] at HG
    rw [HV.out]
    clear h hr
    go_enter Try.func27, Try.ntmps27
    go_wp2_with fail
    refine HG.out.mono ?_
    rintro e w' ⟨rfl, hs⟩
    have hb := hs w.heap.size
    have HK2 := Lib.hid (HK.out w' hs)
    have hz := hb.size
    go_wp2_with fail
    refine HK2.out.mono ?_
    rintro e w1 ⟨rfl, hb1⟩
    go_wp2_with fail
    go_returns
    exact ⟨rfl, bnext hb hb1⟩
set_option maxHeartbeats 800000 in
theorem implFair_any (s : ByteArray) (cuts : List Int) (a : Option Addr) (cap : Nat) (w : World) (hr : RdS w w.heap.size a cuts) : Calls Try.prog 28 #[.string s, .slice a cuts.length cap] w (OutIsFairSplit w (faV s cuts) (cutV s cuts)) := by
  have HG := Lib.hid (cutNeck_any s cuts a cap _ w hr)
  cases h : cutV s cuts
  · have HV := Lib.hid (faV_no h)
    rw [h, cT_no h] at HG
    rw [HV.out]
    clear h hr
    go_enter Try.func28, Try.ntmps28
    go_wp2_with fail
    refine HG.out.mono ?_
    rintro e w' ⟨rfl, rfl⟩
    go_wp2_with fail
    go_returns
    exact ⟨rfl, Below.refl _ _⟩
  · have HK := Lib.hid (isFair_any s (cutV_goodF h) cuts a cap w hr)
    have HV := Lib.hid (faV_yes h)
    rw [h, cT_yes h] at HG
    rw [HV.out]
    clear h hr
    go_enter Try.func28, Try.ntmps28
    go_wp2_with fail
    refine HG.out.mono ?_
    rintro e w' ⟨rfl, rfl⟩
    go_wp2_with fail
    refine HK.out.mono ?_
    rintro e w1 ⟨rfl, hb⟩
    go_wp2_with fail
    go_returns
    exact ⟨rfl, hb⟩
theorem law_IsFairSplit (w : World) (s : ByteArray) (_ : s.size ≤ maxLen) (cuts : List Int) (a : Option Addr) (c : Nat) (h : RdS w w.heap.size a cuts) :
    Calls Try.prog 7 #[.string s, .slice a cuts.length c] w fun e w' => e = .returned (.bool true) ∧ Below w.heap.size w w' :=
  lawOf_IsFairSplit s cuts a c w h (faV s cuts) (cutV s cuts) (fun a' c' w' _ _ hr => specFair_any s cuts a' c' w' hr) (fun a' c' w' _ _ hr => implFair_any s cuts a' c' w' hr)
end Go.Proofs.Ytokhpchnnilbaaa
