import Derived.Test.YtokhpchnnilbaaaNx
import Derived.Test.YtokhpchnnilbaaaN9
namespace Go.Proofs.Ytokhpchnnilbaaa
open Go.RowKit
set_option maxRecDepth 4000
def OutSignsOf (w : World) (r0 : List Int) (r1 : Bool) (e : Ending) (w' : World) : Prop := ∃ v0, e = .returned (.tuple #[v0, .bool r1]) ∧ OI w' w.heap.size w'.heap.size v0 r0 ∧ Below w.heap.size w w'
set_option maxHeartbeats 3200000 in
theorem lawOf_SignsOf (s : ByteArray) (cuts : List Int) (a_cuts : Option Addr) (c_cuts : Nat) (w : World) (h_cuts : RdS w w.heap.size a_cuts cuts) (r0 : List Int) (r1 : Bool) (hL0 : r0.length ≤ 100000)
    (hs : ∀ (a_cuts' : Option Addr) (c_cuts' : Nat) (w' : World), s.size ≤ 1048576 → cuts.length ≤ 1048576 → RdS w' w'.heap.size a_cuts' cuts → Calls Try.prog 29 #[.string s, .slice a_cuts' cuts.length c_cuts'] w' (OutSignsOf w' r0 r1))
    (hi : ∀ (a_cuts' : Option Addr) (c_cuts' : Nat) (w' : World), s.size ≤ 1048576 → cuts.length ≤ 1048576 → RdS w' w'.heap.size a_cuts' cuts → Calls Try.prog 30 #[.string s, .slice a_cuts' cuts.length c_cuts'] w' (OutSignsOf w' r0 r1)) :
    Calls Try.prog 8 #[.string s, .slice a_cuts cuts.length c_cuts] w fun e w' => e = .returned (.bool true) ∧ Below w.heap.size w w' := by
  have HS := Lib.hid hs
  have HI := Lib.hid hi
  clear hs hi
  have hne1 : (r1 != r1) = false := by simp
  have hB0 : Below w.heap.size w w := Below.refl _ _
  by_cases hbig_s : (1048576 : Int) < (s.size : Int)
  · go_enter Try.func8, Try.ntmps8
    go_wp2_with fail
    go_ret
    exact ⟨rfl, Below.refl _ _⟩
  have hsz_s : s.size ≤ 1048576 := by omega
  by_cases hbig_cuts : (1048576 : Int) < (cuts.length : Int)
  · go_enter Try.func8, Try.ntmps8
    go_wp2_with fail
    go_ret
    exact ⟨rfl, Below.refl _ _⟩
  have hsz_cuts : cuts.length ≤ 1048576 := by omega
  go_enter Try.func8, Try.ntmps8
  go_wp2_with fail
  refine (toIntS_rd cuts a_cuts c_cuts _ _ h_cuts (by omega) hsz_cuts).mono ?_
  rintro e w1 ⟨v_cutsp, rfl, o_cutsp, hb⟩
  have hc := chg_below hb
  clear hb
  have z1 := hc.size
  replace h_cuts := rds_chg h_cuts hc (by omega) (by omega)
  replace hB0 := below_chg hB0 hc (by omega) (by omega)
  clear hc
  obtain ⟨a_cutsp, c_cutsp, _, rfl, -, rd_cutsp⟩ := oi_shape o_cutsp
  go_wp2_with fail
  refine (HS.out a_cutsp c_cutsp _ hsz_s hsz_cuts (rds_mono rd_cutsp (by omega))).mono ?_
  rintro e w2 ⟨vs0, rfl, os0, hb⟩
  have hc := chg_below hb
  clear hb
  clear rd_cutsp
  have z2 := hc.size
  replace h_cuts := rds_chg h_cuts hc (by omega) (by omega)
  replace o_cutsp := oi_keep o_cutsp hc (by omega) (by omega)
  replace hB0 := below_chg hB0 hc (by omega) (by omega)
  clear hc
  obtain ⟨as0, cs0, -, rfl, -⟩ := oi_shape os0
  go_wp2_with fail
  clear o_cutsp
  refine (toIntS_rd cuts a_cuts c_cuts _ _ h_cuts (by omega) hsz_cuts).mono ?_
  rintro e w3 ⟨v_cutsx, rfl, o_cutsx, hb⟩
  have hc := chg_below hb
  clear hb
  have z3 := hc.size
  replace h_cuts := rds_chg h_cuts hc (by omega) (by omega)
  replace os0 := oi_keep os0 hc (by omega) (by omega)
  replace hB0 := below_chg hB0 hc (by omega) (by omega)
  clear hc
  obtain ⟨a_cutsx, c_cutsx, _, rfl, -, rd_cutsx⟩ := oi_shape o_cutsx
  go_wp2_with fail
  refine (HI.out a_cutsx c_cutsx _ hsz_s hsz_cuts (rds_mono rd_cutsx (by omega))).mono ?_
  rintro e w4 ⟨vg0, rfl, og0, hb⟩
  have hc := chg_below hb
  clear hb
  clear rd_cutsx
  have z4 := hc.size
  replace h_cuts := rds_chg h_cuts hc (by omega) (by omega)
  replace os0 := oi_keep os0 hc (by omega) (by omega)
  replace o_cutsx := oi_keep o_cutsx hc (by omega) (by omega)
  replace hB0 := below_chg hB0 hc (by omega) (by omega)
  clear hc
  obtain ⟨ag0, cg0, -, rfl, -⟩ := oi_shape og0
  go_wp2_with fail
  refine (eqIntS_rd r0 ag0 as0 _ _ cg0 cs0 _ (oi_rds og0) (oi_rds os0)).mono ?_
  rintro e w5 ⟨rfl, hs⟩
  have hc := chg_same hs
  clear hs
  have z5 := hc.size
  replace h_cuts := rds_chg h_cuts hc (by omega) (by omega)
  replace os0 := oi_keep os0 hc (by omega) (by omega)
  replace o_cutsx := oi_keep o_cutsx hc (by omega) (by omega)
  replace og0 := oi_keep og0 hc (by omega) (by omega)
  replace hB0 := below_chg hB0 hc (by omega) (by omega)
  clear hc
  go_wp2_with fail
  refine (toIntS_rd cuts a_cuts c_cuts _ _ h_cuts (by omega) hsz_cuts).mono ?_
  rintro e w6 ⟨v_cutsy, rfl, o_cutsy, hb⟩
  have hc := chg_below hb
  clear hb
  have z6 := hc.size
  replace h_cuts := rds_chg h_cuts hc (by omega) (by omega)
  replace os0 := oi_keep os0 hc (by omega) (by omega)
  replace o_cutsx := oi_keep o_cutsx hc (by omega) (by omega)
  replace og0 := oi_keep og0 hc (by omega) (by omega)
  replace hB0 := below_chg hB0 hc (by omega) (by omega)
  clear hc
  obtain ⟨a_cutsy, c_cutsy, -, rfl, -⟩ := oi_shape o_cutsy
  go_wp2_with fail
  refine (eqIntS_rd cuts a_cutsx a_cutsy _ _ c_cutsx c_cutsy _ (oi_rds o_cutsx) (oi_rds o_cutsy)).mono ?_
  rintro e w7 ⟨rfl, hs⟩
  have hc := chg_same hs
  clear hs
  have z7 := hc.size
  replace h_cuts := rds_chg h_cuts hc (by omega) (by omega)
  replace os0 := oi_keep os0 hc (by omega) (by omega)
  replace o_cutsx := oi_keep o_cutsx hc (by omega) (by omega)
  replace og0 := oi_keep og0 hc (by omega) (by omega)
  replace o_cutsy := oi_keep o_cutsy hc (by omega) (by omega)
  replace hB0 := below_chg hB0 hc (by omega) (by omega)
  clear hc
  go_wp2_with fail
  clear o_cutsy
  refine (markIntS_chg cuts a_cutsx _ _ c_cutsx _ _ o_cutsx (by omega) (by omega)).mono ?_
  rintro e w8 ⟨rfl, -, hc⟩
  clear o_cutsx
  have z8 := hc.size
  replace h_cuts := rds_chg h_cuts hc (by omega) (by omega)
  replace os0 := oi_keep os0 hc (by omega) (by omega)
  replace og0 := oi_keep og0 hc (by omega) (by omega)
  replace hB0 := below_chg hB0 hc (by omega) (by omega)
  clear hc
  go_wp2_with fail
  refine (eqIntS_rd r0 ag0 as0 _ _ cg0 cs0 _ (oi_rds og0) (oi_rds os0)).mono ?_
  rintro e w9 ⟨rfl, hs⟩
  have hc := chg_same hs
  clear hs
  have z9 := hc.size
  replace h_cuts := rds_chg h_cuts hc (by omega) (by omega)
  replace os0 := oi_keep os0 hc (by omega) (by omega)
  replace og0 := oi_keep og0 hc (by omega) (by omega)
  replace hB0 := below_chg hB0 hc (by omega) (by omega)
  clear hc
  go_wp2_with fail
  refine (markIntS_chg r0 ag0 _ _ cg0 1 _ og0 (by omega) (by omega)).mono ?_
  rintro e w10 ⟨rfl, om0, hc⟩
  have hlm0 : (mkd 1 r0.length r0).length = r0.length := mkd_len _ _ _ (Nat.le_refl _)
  have HLM0 := Lib.hid hlm0
  clear hlm0
  clear og0
  have z10 := hc.size
  replace h_cuts := rds_chg h_cuts hc (by omega) (by omega)
  replace os0 := oi_keep os0 hc (by omega) (by omega)
  replace hB0 := below_chg hB0 hc (by omega) (by omega)
  clear hc
  go_wp2_with fail
  refine (heldIntS_rd r0 1 ag0 _ _ cg0 _ HLM0.out (oi_rds2 om0) (by omega) (by omega)).mono ?_
  rintro e w' ⟨rfl, rfl⟩
  go_wp2_with fail
  refine (toIntS_rd cuts a_cuts c_cuts _ _ h_cuts (by omega) hsz_cuts).mono ?_
  rintro e w11 ⟨v_cutsz, rfl, o_cutsz, hb⟩
  have hc := chg_below hb
  clear hb
  have z11 := hc.size
  replace h_cuts := rds_chg h_cuts hc (by omega) (by omega)
  replace os0 := oi_keep os0 hc (by omega) (by omega)
  replace om0 := oi_keep om0 hc (by omega) (by omega)
  replace hB0 := below_chg hB0 hc (by omega) (by omega)
  clear hc
  obtain ⟨a_cutsz, c_cutsz, _, rfl, -, rd_cutsz⟩ := oi_shape o_cutsz
  go_wp2_with fail
  refine (HI.out a_cutsz c_cutsz _ hsz_s hsz_cuts (rds_mono rd_cutsz (by omega))).mono ?_
  rintro e w12 ⟨vh0, rfl, oh0, hb⟩
  have hc := chg_below hb
  clear hb
  clear rd_cutsz
  have z12 := hc.size
  replace h_cuts := rds_chg h_cuts hc (by omega) (by omega)
  replace os0 := oi_keep os0 hc (by omega) (by omega)
  replace om0 := oi_keep om0 hc (by omega) (by omega)
  replace o_cutsz := oi_keep o_cutsz hc (by omega) (by omega)
  replace hB0 := below_chg hB0 hc (by omega) (by omega)
  clear hc
  obtain ⟨ah0, ch0, -, rfl, -⟩ := oi_shape oh0
  go_wp2_with fail
  clear o_cutsz
  refine (eqIntS_rd r0 ah0 as0 _ _ ch0 cs0 _ (oi_rds oh0) (oi_rds os0)).mono ?_
  rintro e w13 ⟨rfl, hs⟩
  have hc := chg_same hs
  clear hs
  have z13 := hc.size
  replace h_cuts := rds_chg h_cuts hc (by omega) (by omega)
  replace os0 := oi_keep os0 hc (by omega) (by omega)
  replace om0 := oi_keep om0 hc (by omega) (by omega)
  replace oh0 := oi_keep oh0 hc (by omega) (by omega)
  replace hB0 := below_chg hB0 hc (by omega) (by omega)
  clear hc
  go_wp2_with fail
  refine (heldIntS_rd r0 1 ag0 _ _ cg0 _ HLM0.out (oi_rds2 om0) (by omega) (by omega)).mono ?_
  rintro e w' ⟨rfl, rfl⟩
  go_wp2_with fail
  go_ret
  exact ⟨rfl, hB0⟩
def siV (s : ByteArray) (cuts : List Int) : List Int := if cutV s cuts = true then sgL cuts s.size else []
theorem siV_yes {s : ByteArray} {cuts : List Int} (h : cutV s cuts = true) : siV s cuts = sgL cuts s.size := by simp [siV, h]
theorem siV_no {s : ByteArray} {cuts : List Int} (h : cutV s cuts = false) : siV s cuts = [] := by simp [siV, h]
theorem cutV_goodS {s : ByteArray} {cuts : List Int} (h : cutV s cuts = true) : goodS s = true := by
  simp only [cutV, Bool.and_eq_true] at h; exact h.1
theorem siV_len (s : ByteArray) (cuts : List Int) : (siV s cuts).length ≤ 100000 := by
  unfold siV
  split
  · rename_i h
    have := (goodS_at (cutV_goodS h)).1
    rw [sgL_len]; omega
  · simp
set_option maxHeartbeats 800000 in
theorem specSigns_any (s : ByteArray) (cuts : List Int) (a : Option Addr) (cap : Nat) (w : World) (hr : RdS w w.heap.size a cuts) : Calls Try.prog 29 #[.string s, .slice a cuts.length cap] w (OutSignsOf w (siV s cuts) (cutV s cuts)) := by
  have HG := Lib.hid (nlCuts_any s cuts a cap _ w hr)
  cases h : cutV s cuts
  · have HV := Lib.hid (siV_no h)
    rw [h] at HG
    rw [HV.out]
    clear h hr
    go_enter Try.func29, Try.ntmps29
    go_wp2_with fail
    refine HG.out.mono ?_
    rintro e w' ⟨rfl, hs⟩
    have hb := hs w.heap.size
    go_wp2_with fail
    go_returns
    exact ⟨_, rfl, oi_nil _ _ _, hb⟩
  · have HK : Hid (∀ w', Same w w' → _) := Lib.hid (fun w' (hs : Same w w') => nlSigns_any s (goodS_at (cutV_goodS h)).1 cuts a cap w' (rds_mono (rds_same hr hs) (hs w.heap.size).size))
    have HV := Lib.hid (siV_yes h)
    rw [h] at HG
    rw [HV.out]
    clear h hr
    go_enter Try.func29, Try.ntmps29
    go_wp2_with fail
    refine HG.out.mono ?_
    rintro e w' ⟨rfl, hs⟩
    have hb := hs w.heap.size
    have HK2 := Lib.hid (HK.out w' hs)
    have hz := hb.size
    go_wp2_with fail
    refine HK2.out.mono ?_
    rintro e w1 ⟨v, rfl, ho, hb1⟩
    go_wp2_with fail
    go_returns
    exact ⟨_, rfl, oi_lo9 ho hz, bnext hb hb1⟩
set_option maxHeartbeats 800000 in
theorem implSigns_any (s : ByteArray) (cuts : List Int) (a : Option Addr) (cap : Nat) (w : World) (hr : RdS w w.heap.size a cuts) : Calls Try.prog 30 #[.string s, .slice a cuts.length cap] w (OutSignsOf w (siV s cuts) (cutV s cuts)) := by
  have HG := Lib.hid (cutNeck_any s cuts a cap _ w hr)
  cases h : cutV s cuts
  · have HV := Lib.hid (siV_no h)
    have HK := Lib.hid (signs_any ⟨#[]⟩ (by decide) cuts a cap w hr)
    have HE : Hid (sgL cuts (ByteArray.mk #[]).size = []) := Lib.hid rfl
    rw [h, cT_no h] at HG
    rw [HE.out] at HK
    rw [HV.out]
    clear h hr
    go_enter Try.func30, Try.ntmps30
    go_wp2_with fail
    refine HG.out.mono ?_
    rintro e w' ⟨rfl, rfl⟩
    go_wp2_with fail
    refine HK.out.mono ?_
    rintro e w1 ⟨v, rfl, ho, hb⟩
    go_wp2_with fail
    go_returns
    exact ⟨_, rfl, ho, hb⟩
  · have HK := Lib.hid (signs_any s (goodS_at (cutV_goodS h)).1 cuts a cap w hr)
    have HV := Lib.hid (siV_yes h)
    rw [h, cT_yes h] at HG
    rw [HV.out]
    clear h hr
    go_enter Try.func30, Try.ntmps30
    go_wp2_with fail
    refine HG.out.mono ?_
    rintro e w' ⟨rfl, rfl⟩
    go_wp2_with fail
    refine HK.out.mono ?_
    rintro e w1 ⟨v, rfl, ho, hb⟩
    go_wp2_with fail
    go_returns
    exact ⟨_, rfl, ho, hb⟩
theorem law_SignsOf (w : World) (s : ByteArray) (_ : s.size ≤ maxLen) (cuts : List Int) (a : Option Addr) (c : Nat) (h : RdS w w.heap.size a cuts) :
    Calls Try.prog 8 #[.string s, .slice a cuts.length c] w fun e w' => e = .returned (.bool true) ∧ Below w.heap.size w w' :=
  lawOf_SignsOf s cuts a c w h (siV s cuts) (cutV s cuts) (siV_len s cuts) (fun a' c' w' _ _ hr => specSigns_any s cuts a' c' w' hr) (fun a' c' w' _ _ hr => implSigns_any s cuts a' c' w' hr)
end Go.Proofs.Ytokhpchnnilbaaa
