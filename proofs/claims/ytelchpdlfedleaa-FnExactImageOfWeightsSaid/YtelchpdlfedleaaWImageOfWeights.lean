import Derived.Test.YtelchpdlfedleaaS42
namespace Go.Proofs.Ytelchpdlfedleaa
open Go.RowKit
set_option maxRecDepth 4000
def OutImageOfWeights (w : World) (r0 : List Int) (r1 : Bool) (e : Ending) (w' : World) : Prop := ∃ v0, e = .returned (.tuple #[v0, .bool r1]) ∧ OI w' w.heap.size w'.heap.size v0 r0 ∧ Below w.heap.size w w'
set_option maxHeartbeats 3200000 in
theorem lawOf_ImageOfWeights (n : Int) (im : List (List Int)) (a_im : Option Addr) (c_im : Nat) (c : Int) (g : List Int) (a_g : Option Addr) (c_g : Nat) (w : World) (h_im : RdSS w w.heap.size a_im im) (h_g : RdS w w.heap.size a_g g) (r0 : List Int) (r1 : Bool) (hL0 : r0.length ≤ 100000)
    (hs : ∀ (a_im' : Option Addr) (c_im' : Nat) (a_g' : Option Addr) (c_g' : Nat) (w' : World), SmallSS im → g.length ≤ 1048576 → RdSS w' w'.heap.size a_im' im → RdS w' w'.heap.size a_g' g → Calls Try.prog 46 #[.int .i64 n, .slice a_im' im.length c_im', .int .i64 c, .slice a_g' g.length c_g'] w' (OutImageOfWeights w' r0 r1))
    (hi : ∀ (a_im' : Option Addr) (c_im' : Nat) (a_g' : Option Addr) (c_g' : Nat) (w' : World), SmallSS im → g.length ≤ 1048576 → RdSS w' w'.heap.size a_im' im → RdS w' w'.heap.size a_g' g → Calls Try.prog 47 #[.int .i64 n, .slice a_im' im.length c_im', .int .i64 c, .slice a_g' g.length c_g'] w' (OutImageOfWeights w' r0 r1)) :
    Calls Try.prog 14 #[.int .i64 n, .slice a_im im.length c_im, .int .i64 c, .slice a_g g.length c_g] w fun e w' => e = .returned (.bool true) ∧ Below w.heap.size w w' := by
  have HS := Lib.hid hs
  have HI := Lib.hid hi
  clear hs hi
  have hne1 : (r1 != r1) = false := by simp
  have hB0 : Below w.heap.size w w := Below.refl _ _
  by_cases hbig_g : (1048576 : Int) < (g.length : Int)
  · go_enter Try.func14, Try.ntmps14
    go_wp2_with fail
    go_ret
    exact ⟨rfl, Below.refl _ _⟩
  have hsz_g : g.length ≤ 1048576 := by omega
  go_enter Try.func14, Try.ntmps14
  go_wp2_with fail
  refine (szIntSS_any im a_im c_im _ 1048576 (by omega) (by omega) w h_im).mono ?_
  rintro e w' ⟨l1, rfl, rfl, hl⟩
  rcases hl with hl | ⟨hl0_0, hl1_0, hsz_im⟩
  · go_wp2_with fail
    go_ret
    exact ⟨rfl, Below.refl _ _⟩
  go_wp2_with fail
  refine (toIntSS_any im a_im c_im _ _ h_im (by omega) hsz_im).mono ?_
  rintro e w1 ⟨v_imp, rfl, o_imp, hb⟩
  have hc := chg_below hb
  clear hb
  have z1 := hc.size
  replace h_im := rdss_chg h_im hc (by omega) (by omega)
  replace h_g := rds_chg h_g hc (by omega) (by omega)
  replace hB0 := below_chg hB0 hc (by omega) (by omega)
  clear hc
  obtain ⟨a_imp, c_imp, rfl, rd_imp⟩ := oss_shape o_imp
  go_wp2_with fail
  refine (toIntS_rd g a_g c_g _ _ h_g (by omega) hsz_g).mono ?_
  rintro e w2 ⟨v_gp, rfl, o_gp, hb⟩
  have hc := chg_below hb
  clear hb
  have z2 := hc.size
  replace h_im := rdss_chg h_im hc (by omega) (by omega)
  replace h_g := rds_chg h_g hc (by omega) (by omega)
  replace o_imp := oss_keep o_imp hc (by omega) (by omega)
  replace rd_imp := rdss_chg rd_imp hc (by omega) (by omega)
  replace hB0 := below_chg hB0 hc (by omega) (by omega)
  clear hc
  obtain ⟨a_gp, c_gp, _, rfl, -, rd_gp⟩ := oi_shape o_gp
  go_wp2_with fail
  refine (HS.out a_imp c_imp a_gp c_gp _ hsz_im hsz_g (rdss_mono rd_imp (by omega)) (rds_mono rd_gp (by omega))).mono ?_
  rintro e w3 ⟨vs0, rfl, os0, hb⟩
  have hc := chg_below hb
  clear hb
  clear rd_imp
  clear rd_gp
  have z3 := hc.size
  replace h_im := rdss_chg h_im hc (by omega) (by omega)
  replace h_g := rds_chg h_g hc (by omega) (by omega)
  replace o_imp := oss_keep o_imp hc (by omega) (by omega)
  replace o_gp := oi_keep o_gp hc (by omega) (by omega)
  replace hB0 := below_chg hB0 hc (by omega) (by omega)
  clear hc
  obtain ⟨as0, cs0, -, rfl, -⟩ := oi_shape os0
  go_wp2_with fail
  clear o_imp
  clear o_gp
  refine (toIntSS_any im a_im c_im _ _ h_im (by omega) hsz_im).mono ?_
  rintro e w4 ⟨v_imx, rfl, o_imx, hb⟩
  have hc := chg_below hb
  clear hb
  have z4 := hc.size
  replace h_im := rdss_chg h_im hc (by omega) (by omega)
  replace h_g := rds_chg h_g hc (by omega) (by omega)
  replace os0 := oi_keep os0 hc (by omega) (by omega)
  replace hB0 := below_chg hB0 hc (by omega) (by omega)
  clear hc
  obtain ⟨a_imx, c_imx, rfl, rd_imx⟩ := oss_shape o_imx
  go_wp2_with fail
  refine (toIntS_rd g a_g c_g _ _ h_g (by omega) hsz_g).mono ?_
  rintro e w5 ⟨v_gx, rfl, o_gx, hb⟩
  have hc := chg_below hb
  clear hb
  have z5 := hc.size
  replace h_im := rdss_chg h_im hc (by omega) (by omega)
  replace h_g := rds_chg h_g hc (by omega) (by omega)
  replace os0 := oi_keep os0 hc (by omega) (by omega)
  replace o_imx := oss_keep o_imx hc (by omega) (by omega)
  replace rd_imx := rdss_chg rd_imx hc (by omega) (by omega)
  replace hB0 := below_chg hB0 hc (by omega) (by omega)
  clear hc
  obtain ⟨a_gx, c_gx, _, rfl, -, rd_gx⟩ := oi_shape o_gx
  go_wp2_with fail
  refine (HI.out a_imx c_imx a_gx c_gx _ hsz_im hsz_g (rdss_mono rd_imx (by omega)) (rds_mono rd_gx (by omega))).mono ?_
  rintro e w6 ⟨vg0, rfl, og0, hb⟩
  have hc := chg_below hb
  clear hb
  clear rd_imx
  clear rd_gx
  have z6 := hc.size
  replace h_im := rdss_chg h_im hc (by omega) (by omega)
  replace h_g := rds_chg h_g hc (by omega) (by omega)
  replace os0 := oi_keep os0 hc (by omega) (by omega)
  replace o_imx := oss_keep o_imx hc (by omega) (by omega)
  replace o_gx := oi_keep o_gx hc (by omega) (by omega)
  replace hB0 := below_chg hB0 hc (by omega) (by omega)
  clear hc
  obtain ⟨ag0, cg0, -, rfl, -⟩ := oi_shape og0
  go_wp2_with fail
  refine (eqIntS_rd r0 ag0 as0 _ _ cg0 cs0 _ (oi_rds og0) (oi_rds os0)).mono ?_
  rintro e w7 ⟨rfl, hs⟩
  have hc := chg_same hs
  clear hs
  have z7 := hc.size
  replace h_im := rdss_chg h_im hc (by omega) (by omega)
  replace h_g := rds_chg h_g hc (by omega) (by omega)
  replace os0 := oi_keep os0 hc (by omega) (by omega)
  replace o_imx := oss_keep o_imx hc (by omega) (by omega)
  replace o_gx := oi_keep o_gx hc (by omega) (by omega)
  replace og0 := oi_keep og0 hc (by omega) (by omega)
  replace hB0 := below_chg hB0 hc (by omega) (by omega)
  clear hc
  go_wp2_with fail
  refine (toIntSS_any im a_im c_im _ _ h_im (by omega) hsz_im).mono ?_
  rintro e w8 ⟨v_imy, rfl, o_imy, hb⟩
  have hc := chg_below hb
  clear hb
  have z8 := hc.size
  replace h_im := rdss_chg h_im hc (by omega) (by omega)
  replace h_g := rds_chg h_g hc (by omega) (by omega)
  replace os0 := oi_keep os0 hc (by omega) (by omega)
  replace o_imx := oss_keep o_imx hc (by omega) (by omega)
  replace o_gx := oi_keep o_gx hc (by omega) (by omega)
  replace og0 := oi_keep og0 hc (by omega) (by omega)
  replace hB0 := below_chg hB0 hc (by omega) (by omega)
  clear hc
  obtain ⟨a_imy, c_imy, rfl, -⟩ := oss_shape o_imy
  go_wp2_with fail
  refine (eqIntSS_rd im a_imx a_imy _ _ c_imx c_imy _ (oss_rds o_imx) (oss_rds o_imy)).mono ?_
  rintro e w9 ⟨rfl, hs⟩
  have hc := chg_same hs
  clear hs
  have z9 := hc.size
  replace h_im := rdss_chg h_im hc (by omega) (by omega)
  replace h_g := rds_chg h_g hc (by omega) (by omega)
  replace os0 := oi_keep os0 hc (by omega) (by omega)
  replace o_imx := oss_keep o_imx hc (by omega) (by omega)
  replace o_gx := oi_keep o_gx hc (by omega) (by omega)
  replace og0 := oi_keep og0 hc (by omega) (by omega)
  replace o_imy := oss_keep o_imy hc (by omega) (by omega)
  replace hB0 := below_chg hB0 hc (by omega) (by omega)
  clear hc
  go_wp2_with fail
  clear o_imy
  refine (toIntS_rd g a_g c_g _ _ h_g (by omega) hsz_g).mono ?_
  rintro e w10 ⟨v_gy, rfl, o_gy, hb⟩
  have hc := chg_below hb
  clear hb
  have z10 := hc.size
  replace h_im := rdss_chg h_im hc (by omega) (by omega)
  replace h_g := rds_chg h_g hc (by omega) (by omega)
  replace os0 := oi_keep os0 hc (by omega) (by omega)
  replace o_imx := oss_keep o_imx hc (by omega) (by omega)
  replace o_gx := oi_keep o_gx hc (by omega) (by omega)
  replace og0 := oi_keep og0 hc (by omega) (by omega)
  replace hB0 := below_chg hB0 hc (by omega) (by omega)
  clear hc
  obtain ⟨a_gy, c_gy, -, rfl, -⟩ := oi_shape o_gy
  go_wp2_with fail
  refine (eqIntS_rd g a_gx a_gy _ _ c_gx c_gy _ (oi_rds o_gx) (oi_rds o_gy)).mono ?_
  rintro e w11 ⟨rfl, hs⟩
  have hc := chg_same hs
  clear hs
  have z11 := hc.size
  replace h_im := rdss_chg h_im hc (by omega) (by omega)
  replace h_g := rds_chg h_g hc (by omega) (by omega)
  replace os0 := oi_keep os0 hc (by omega) (by omega)
  replace o_imx := oss_keep o_imx hc (by omega) (by omega)
  replace o_gx := oi_keep o_gx hc (by omega) (by omega)
  replace og0 := oi_keep og0 hc (by omega) (by omega)
  replace o_gy := oi_keep o_gy hc (by omega) (by omega)
  replace hB0 := below_chg hB0 hc (by omega) (by omega)
  clear hc
  go_wp2_with fail
  clear o_gy
  obtain ⟨lx0, hlx0, hsx0, hnx0⟩ := small_lens hsz_im
  refine (markIntSS_chg lx0 im hlx0 hsx0 hnx0 a_imx _ _ c_imx _ (by omega) (by omega) _ o_imx).mono ?_
  rintro e w12 ⟨rfl, -, hc⟩
  have htx0 : offs lx0 lx0.length ≤ 1099511627776 := Nat.le_trans (offs_big lx0 hsx0 lx0.length) (by omega)
  clear hlx0 hsx0
  generalize offs lx0 lx0.length = tx0 at htx0 ⊢
  clear o_imx
  have z12 := hc.size
  replace h_im := rdss_chg h_im hc (by omega) (by omega)
  replace h_g := rds_chg h_g hc (by omega) (by omega)
  replace os0 := oi_keep os0 hc (by omega) (by omega)
  replace o_gx := oi_keep o_gx hc (by omega) (by omega)
  replace og0 := oi_keep og0 hc (by omega) (by omega)
  replace hB0 := below_chg hB0 hc (by omega) (by omega)
  clear hc
  go_wp2_with fail
  refine (markIntS_chg g a_gx _ _ c_gx _ _ o_gx (by omega) (by omega)).mono ?_
  rintro e w13 ⟨rfl, -, hc⟩
  clear o_gx
  have z13 := hc.size
  replace h_im := rdss_chg h_im hc (by omega) (by omega)
  replace h_g := rds_chg h_g hc (by omega) (by omega)
  replace os0 := oi_keep os0 hc (by omega) (by omega)
  replace og0 := oi_keep og0 hc (by omega) (by omega)
  replace hB0 := below_chg hB0 hc (by omega) (by omega)
  clear hc
  go_wp2_with fail
  refine (eqIntS_rd r0 ag0 as0 _ _ cg0 cs0 _ (oi_rds og0) (oi_rds os0)).mono ?_
  rintro e w14 ⟨rfl, hs⟩
  have hc := chg_same hs
  clear hs
  have z14 := hc.size
  replace h_im := rdss_chg h_im hc (by omega) (by omega)
  replace h_g := rds_chg h_g hc (by omega) (by omega)
  replace os0 := oi_keep os0 hc (by omega) (by omega)
  replace og0 := oi_keep og0 hc (by omega) (by omega)
  replace hB0 := below_chg hB0 hc (by omega) (by omega)
  clear hc
  go_wp2_with fail
  refine (markIntS_chg r0 ag0 _ _ cg0 1 _ og0 (by omega) (by omega)).mono ?_
  rintro e w15 ⟨rfl, om0, hc⟩
  have hlm0 : (mkd 1 r0.length r0).length = r0.length := mkd_len _ _ _ (Nat.le_refl _)
  have HLM0 := Lib.hid hlm0
  clear hlm0
  clear og0
  have z15 := hc.size
  replace h_im := rdss_chg h_im hc (by omega) (by omega)
  replace h_g := rds_chg h_g hc (by omega) (by omega)
  replace os0 := oi_keep os0 hc (by omega) (by omega)
  replace hB0 := below_chg hB0 hc (by omega) (by omega)
  clear hc
  go_wp2_with fail
  refine (heldIntS_rd r0 1 ag0 _ _ cg0 _ HLM0.out (oi_rds2 om0) (by omega) (by omega)).mono ?_
  rintro e w' ⟨rfl, rfl⟩
  go_wp2_with fail
  refine (toIntSS_any im a_im c_im _ _ h_im (by omega) hsz_im).mono ?_
  rintro e w16 ⟨v_imz, rfl, o_imz, hb⟩
  have hc := chg_below hb
  clear hb
  have z16 := hc.size
  replace h_im := rdss_chg h_im hc (by omega) (by omega)
  replace h_g := rds_chg h_g hc (by omega) (by omega)
  replace os0 := oi_keep os0 hc (by omega) (by omega)
  replace om0 := oi_keep om0 hc (by omega) (by omega)
  replace hB0 := below_chg hB0 hc (by omega) (by omega)
  clear hc
  obtain ⟨a_imz, c_imz, rfl, rd_imz⟩ := oss_shape o_imz
  go_wp2_with fail
  refine (toIntS_rd g a_g c_g _ _ h_g (by omega) hsz_g).mono ?_
  rintro e w17 ⟨v_gz, rfl, o_gz, hb⟩
  have hc := chg_below hb
  clear hb
  have z17 := hc.size
  replace h_im := rdss_chg h_im hc (by omega) (by omega)
  replace h_g := rds_chg h_g hc (by omega) (by omega)
  replace os0 := oi_keep os0 hc (by omega) (by omega)
  replace om0 := oi_keep om0 hc (by omega) (by omega)
  replace o_imz := oss_keep o_imz hc (by omega) (by omega)
  replace rd_imz := rdss_chg rd_imz hc (by omega) (by omega)
  replace hB0 := below_chg hB0 hc (by omega) (by omega)
  clear hc
  obtain ⟨a_gz, c_gz, _, rfl, -, rd_gz⟩ := oi_shape o_gz
  go_wp2_with fail
  refine (HI.out a_imz c_imz a_gz c_gz _ hsz_im hsz_g (rdss_mono rd_imz (by omega)) (rds_mono rd_gz (by omega))).mono ?_
  rintro e w18 ⟨vh0, rfl, oh0, hb⟩
  have hc := chg_below hb
  clear hb
  clear rd_imz
  clear rd_gz
  have z18 := hc.size
  replace h_im := rdss_chg h_im hc (by omega) (by omega)
  replace h_g := rds_chg h_g hc (by omega) (by omega)
  replace os0 := oi_keep os0 hc (by omega) (by omega)
  replace om0 := oi_keep om0 hc (by omega) (by omega)
  replace o_imz := oss_keep o_imz hc (by omega) (by omega)
  replace o_gz := oi_keep o_gz hc (by omega) (by omega)
  replace hB0 := below_chg hB0 hc (by omega) (by omega)
  clear hc
  obtain ⟨ah0, ch0, -, rfl, -⟩ := oi_shape oh0
  go_wp2_with fail
  clear o_imz
  clear o_gz
  refine (eqIntS_rd r0 ah0 as0 _ _ ch0 cs0 _ (oi_rds oh0) (oi_rds os0)).mono ?_
  rintro e w19 ⟨rfl, hs⟩
  have hc := chg_same hs
  clear hs
  have z19 := hc.size
  replace h_im := rdss_chg h_im hc (by omega) (by omega)
  replace h_g := rds_chg h_g hc (by omega) (by omega)
  replace os0 := oi_keep os0 hc (by omega) (by omega)
  replace om0 := oi_keep om0 hc (by omega) (by omega)
  replace oh0 := oi_keep oh0 hc (by omega) (by omega)
  replace hB0 := below_chg hB0 hc (by omega) (by omega)
  clear hc
  go_wp2_with fail
  refine (heldIntS_rd r0 1 ag0 _ _ cg0 _ HLM0.out (oi_rds2 om0) (by omega) (by omega)).mono ?_
  rintro e w' ⟨rfl, rfl⟩
  go_wp2_with fail
  go_ret
  exact ⟨rfl, hB0⟩
def imW (im : List (List Int)) (n k : Nat) (i c : Nat) : Int := iq im (cq n k i) c
def imR (im : List (List Int)) (n k j : Nat) : List Int := im.getD (cq n k j) []
theorem imr_ok (n k : Nat) (h2 : n ≤ 5) (hk : k < (ci n).length) (im : List (List Int)) (hy : imB n im = true) : PtOk (imW im n k) ((List.range 3).map (imR im n k)) := ⟨by simp, fun i hi => by
  obtain ⟨hl, hall⟩ := imB_at hy
  have hq := cq_lt n k (by omega) hk i hi
  have h3 := hall (cq n k i) (by omega)
  simp only [ptI, Bool.and_eq_true, decide_eq_true_eq] at h3
  have e : ((List.range 3).map (imR im n k)).getD i [] = im.getD (cq n k i) [] := by
    rcases (by omega : i = 0 ∨ i = 1 ∨ i = 2) with rfl | rfl | rfl <;> rfl
  rw [e]
  exact ⟨h3.1, fun _ _ => rfl⟩⟩
theorem imw_small (n k : Nat) (h2 : n ≤ 5) (hk : k < (ci n).length) (im : List (List Int)) (hy : imB n im = true) (xs : List Int) (hg : gvB xs = true) : Small3 (wf xs) (imW im n k) := fun i hi =>
  ⟨(gvB_yes hg).2.1 i hi, fun c hc => by
    have := iq_bd hy (cq n k i) c (cq_lt n k (by omega) hk i hi) hc
    unfold imW
    omega⟩
set_option maxHeartbeats 1600000 in
theorem specImageOfWeights_yes (n k : Nat) (h1 : 1 ≤ n) (h2 : n ≤ 5) (hk : k < (ci n).length) (im : List (List Int)) (hy : imB n im = true) (xs : List Int) (hg : gvB xs = true) (a a2 : Option Addr) (cap cap2 : Nat) (w : World) (h : RdSS w w.heap.size a im) (hx : RdS w w.heap.size a2 xs) :
    Calls Try.prog 46 #[.int .i64 n, .slice a im.length cap, .int .i64 k, .slice a2 xs.length cap2] w (OutImageOfWeights w (mxr (wf xs) (imW im n k) 3 0) true) := by
  have HA := Lib.hid (fxAsked_yes n k h1 h2 im hy hk a cap _ w h)
  have HG := Lib.hid (fun w' (hs : Same w w') => fxGiven_any xs a2 cap2 _ w' (rds_same hx hs))
  have HG0 : Hid (gvB xs = true) := Lib.hid hg
  have he := Lib.hid (ci_eq n (by omega) h1)
  have HLI := Lib.hid (imB_at hy).1
  have HC := Lib.hid (fun j (hj : j < 3) => cq_lt n k (by omega) hk j hj)
  have HX := Lib.hid (fun w' a' cap' (hb : Below w.heap.size w w') hP => fxMix_any ((List.range 3).map (imR im n k)) xs (imW im n k) (imr_ok n k h2 hk im hy) (gvB_yes hg).1 (imw_small n k h2 hk im hy xs hg) a' a2 cap' cap2 w' hP (rds_mono (rds_later hx hb) hb.size))
  have HT : Hid (∀ j, ((List.range (j + 1)).map (imR im n k)) = (List.range j).map (imR im n k) ++ [imR im n k j]) := Lib.hid (fun j => by rw [List.range_succ, List.map_append]; rfl)
  obtain ⟨-, b, off, hc0⟩ := h
  have HI := Lib.hid hc0
  have hki : (k : Int) < ((ci n).length : Int) := by omega
  have h64 := ci_len64 n (by omega)
  have hl21 := cnt21 n h2
  clear hx hg hc0 hy
  go_enter Try.func46, Try.ntmps46
  go_wp2_with fail
  refine HA.out.mono ?_
  rintro e w1 ⟨rfl, hs1⟩
  go_wp2_with fail
  refine (HG.out _ hs1).mono ?_
  rintro e w2 ⟨rfl, hs2⟩
  rw [HG0.out]
  have hB1 := (hs1 w.heap.size).trans (hs2 w.heap.size)
  clear hs1 hs2
  go_wp2_with fail
  refine (meCells_any n h1 (by omega) _).mono ?_
  rintro e w3 ⟨v, rfl, hc, hb2⟩
  rw [← he.out] at hc
  obtain ⟨sa, m, sc, rfl⟩ := cells_shape hc
  obtain ⟨rfl, g, rc, rb, rfl, hgl, c1, hrd, hrb⟩ := spec_cell6 (by omega) hc hk
  have hB3 := bnext hB1 hb2
  have hzz := hB3.size
  have HRD : Hid (∀ j, j < 3 → w3.cell? ⟨rb, j, none⟩ = some (.int .i64 (cq n k j : Nat))) := Lib.hid (fun j hj => by
    have e := (hrd.2 j (by simp [cl]; omega)).2
    rw [Nat.zero_add] at e
    rcases (by omega : j = 0 ∨ j = 1 ∨ j = 2) with rfl | rfl | rfl <;> exact e)
  clear hc hb2 hrd hB1
  go_wp2_with fail
  go_loopw [10, 29] (fun v10 v29 wr => ∃ j : Nat, j ≤ 3 ∧ v29 = .int .i64 j ∧ PtsV w wr w3.heap.size v10 ((List.range j).map (imR im n k)) ∧ Below w3.heap.size w3 wr) (fun _ v29 _ => 3 - (intOf v29).toNat)
  case atStart => exact ⟨0, by omega, rfl, pts_nil _ _ _, Below.refl _ _⟩
  case round =>
    obtain ⟨j, hj, rfl, ho, hb⟩ := hrel
    obtain ⟨wq, rfl⟩ : ∃ wq : World, wq = wr := ⟨_, rfl⟩
    by_cases hltj : j < 3
    · have cj := (hb.cell (p := ⟨rb, j, none⟩) hrb).trans (HRD.out j hltj)
      have hcj := HC.out j hltj
      have hji : (j : Int) < 3 := by omega
      have HTj := Lib.hid (HT.out j)
      have hlj : ((List.range j).map (imR im n k)).length ≤ 3 := by rw [List.length_map, List.length_range]; omega
      have hzq := hb.size
      obtain ⟨rfl, hbl, ra, rc2, ci1, hrj⟩ := HI.out (cq n k j) (by have := HLI.out; omega)
      have ci1 := ((bnext hB3 hb).cell (p := ⟨b, off + cq n k j, none⟩) hbl).trans ci1
      have HR := Lib.hid hrj
      have hqi : ((cq n k j : Nat) : Int) < (im.length : Int) := by have := HLI.out; omega
      obtain ⟨q, hq⟩ : ∃ q, q = cq n k j := ⟨_, rfl⟩
      have HPL : Hid (imR im n k j = im.getD q []) := Lib.hid (by rw [hq]; rfl)
      rw [← hq] at cj hcj ci1 hqi HR
      clear hrj hq
      generalize im.getD q [] = row at *
      go_wp2_with (at_builtin; refine append_pt w3.heap.size _ w wq _ _ ((List.range j).map (imR im n k)) row ra rc2 rfl _ _ rfl rfl rfl rfl ho rfl HR.out hzq (by omega) rfl ?_; intro v' w5 hc5 hb5)
      go_roundw
      case rel => exact ⟨j + 1, by omega, by go_num, by rw [HTj.out, HPL.out]; exact hc5, hb.trans hb5⟩
      case measure => simp [intOf]; omega
    · have hj3 : j = 3 := by omega
      subst hj3
      have hBq := bnext hB3 hb
      obtain ⟨pa, pc, rfl, hrr⟩ := pts_shape ho hBq
      have HXX := Lib.hid (HX.out wq pa pc hBq hrr)
      have hzq := hBq.size
      clear ho hrr
      go_wp2_with fail
      refine HXX.out.mono ?_
      rintro e w6 ⟨v, rfl, ho6, hb6⟩
      obtain ⟨va, vc, vb, rfl, -, -⟩ := oi_shape ho6
      go_wp2_with fail
      go_returns
      obtain ⟨et, ho1, ho2⟩ := ho6
      exact ⟨_, rfl, ⟨et, own_base ho1 hzq, ho2⟩, bnext hBq hb6⟩
set_option maxHeartbeats 3200000 in
theorem implImageOfWeights_yes (n k : Nat) (h1 : 1 ≤ n) (h2 : n ≤ 5) (hk : k < (ci n).length) (im : List (List Int)) (hy : imB n im = true) (xs : List Int) (hg : gvB xs = true) (a a2 : Option Addr) (cap cap2 : Nat) (w : World) (h : RdSS w w.heap.size a im) (hx : RdS w w.heap.size a2 xs) :
    Calls Try.prog 47 #[.int .i64 n, .slice a im.length cap, .int .i64 k, .slice a2 xs.length cap2] w (OutImageOfWeights w (mxr (wf xs) (imW im n k) 3 0) true) := by
  have h45 := cnt21 n h2
  have hp := cq_lt n k (by omega) hk 0 (by omega)
  have hq := cq_lt n k (by omega) hk 1 (by omega)
  have hr := cq_lt n k (by omega) hk 2 (by omega)
  have HM := Lib.hid (mappedCellOf_yes n k h1 h2 hk im hy a cap w h)
  have HW := Lib.hid (fun w' (hb : Below w.heap.size w w') => weightsOf_any xs a2 cap2 _ w' (rds_later hx hb) hb.size)
  rw [wtV_yes hg, hg] at HW
  have HO : Hid (∀ w, Calls Try.prog 82 #[.agg (trA n k), .func (.func 85) #[.agg (mapA n im)] #[]] w fun e w' => e = .returned (.agg (nine (imW im n k))) ∧ Below w.heap.size w w') := Lib.hid (fun w => corners_spot 85 (.agg (mapA n im)) (fun _ _ => rfl) (cq n k 0 : Nat) (cq n k 1 : Nat) (cq n k 2 : Nat) _ _ _ _ _ _ _ _ _ (fun w => imageAt_any n (cq n k 0) (by omega) im w) (fun w => imageAt_any n (cq n k 1) (by omega) im w) (fun w => imageAt_any n (cq n k 2) (by omega) im w) w)
  have HX := Lib.hid (fun b cap ty w hg' => wmix_any (wf xs) (imW im n k) (imw_small n k h2 hk im hy xs hg) b cap ty w hg')
  have hmf : ∀ (fn : Fn) (first cap : Array Value) (w : World), (Instr.makeFunc fn first cap).run Try.prog w = .ok (.func fn first cap) w := fun _ _ _ _ => rfl
  clear hp hq hr h hx hg hy
  have hNs : (nine (imW im n k)).size = 9 := rfl
  have hNo : (nine (imW im n k)).all (·.oneCell') = true := n9_one _ _ _ _ _ _ _ _ _
  generalize nine (imW im n k) = N9 at *
  generalize mxr (wf xs) (imW im n k) 3 0 = res at *
  generalize wf xs 0 = x at *
  generalize wf xs 1 = y at *
  generalize wf xs 2 = z at *
  go_enter Try.func47, Try.ntmps47
  go_wp2_with fail
  refine HM.out.mono ?_
  rintro e w1 ⟨rfl, hb1⟩
  have hz1 := hb1.size
  obtain ⟨gA, gB⟩ := heap2 w1 (.cells zeroM 53) (.cells zspot 61)
  have hAB := balloc (balloc hb1 (.cells zeroM 53)) (.cells zspot 61)
  have hAz : ((w1.alloc (.cells zeroM 53)).alloc (.cells zspot 61)).heap.size = w1.heap.size + 2 := by simp
  go_wp2_with (first | (with_reducible refine alloc_blk zeroM run_alloc_map rfl rfl ?_) | ((with_reducible refine alloc_blk zspot run_alloc_tr rfl rfl ?_); simp only [World.size_alloc, Act.put, List.setIfInBounds_toArray, List.set_cons_zero, List.set_cons_succ]) | ((with_reducible refine store_blk blkM rfl _ _ rfl (w1.heap.size) (mapA n im) (zeroM) ?_ ?_ gA (zeroM_size) (mapA_size _ _) (mapA_one _ _) (w.heap.size) (by omega) ?_); exact rfl; exact rfl; intro w2 hg2 hb2 hk2 hz2; have gB2 := (hk2 (w1.heap.size + 1) (by omega)).trans gB) | ((with_reducible refine store_blk blkTr rfl _ _ rfl (w1.heap.size + 1) (trA n k) (zspot) ?_ ?_ gB2 (zspot_size) (trA_size _ _) (trA_one _ _) (w.heap.size) (by omega) ?_); exact rfl; exact rfl; intro w3 hg3 hb3 hk3 hz3; have gA3 := (hk3 w1.heap.size (by omega)).trans hg2; have hB3 := (hAB.trans hb2).trans hb3))
  refine (HW.out _ hB3).mono ?_
  rintro e w4 ⟨rfl, hb4⟩
  have hM4 := heap_later gA3 hb4
  have hT4 := heap_later hg3 hb4
  have hB4 := bnext hB3 hb4
  have hz4 := hB4.size
  clear hb4 gA3 hg3 hb3 hk3 hz3 hB3 hg2 hb2 hk2 hz2 gB2 gA gB hAB hAz
  go_wp2_with (first | (with_reducible refine alloc_blk zspot run_alloc_wt rfl rfl ?_) | ((with_reducible refine store_blk blkWt rfl _ _ rfl (w4.heap.size) (spA3 x y z) (zspot) ?_ ?_ (heap_alloc_new _ _) (zspot_size) (spA3_size _ _ _) (spA3_one _ _ _) (w4.heap.size) (by omega) ?_); exact rfl; exact rfl; intro w5 hg5 hb5 hk5 hz5; have hb5' : Below w4.heap.size w4 w5 := (balloc (Below.refl w4.heap.size w4) (.cells zspot 74)).trans hb5; have hB5 := hB4.trans (hb5'.mono hz4); have hM5 := heap_later hM4 hb5'; have hT5 := heap_later hT4 hb5') | ((with_reducible refine load_blk blkTr ?_ _ rfl (w1.heap.size + 1) ?_ (trA n k) hT5 (trA_size _ _) ?_); exact rfl; exact rfl; simp only [Act.put, List.setIfInBounds_toArray, List.set_cons_zero, List.set_cons_succ]) | ((with_reducible refine load_blk blkM ?_ _ rfl (w1.heap.size) ?_ (mapA n im) hM5 (mapA_size _ _) ?_); exact rfl; exact rfl; simp only [Act.put, List.setIfInBounds_toArray, List.set_cons_zero, List.set_cons_succ]))
  refine (HO.out _).mono ?_
  rintro e w6 ⟨rfl, hb6⟩
  have hg6 := heap_later hg5 hb6
  have hB6 := bnext hB5 hb6
  have hz6 := hB6.size
  clear hb6 hg5 hM5 hT5 hM4 hT4 hb5 hk5 hz5 hb5' hB5
  go_wp2_with (first | (with_reducible refine alloc_blk z9 run_alloc9_spot rfl rfl ?_) | ((with_reducible refine store_blk blk9_spot rfl _ _ rfl (w6.heap.size) (N9) (z9) ?_ ?_ (heap_alloc_new _ _) (z9_size) (hNs) (hNo) (w6.heap.size) (by omega) ?_); exact rfl; exact rfl; intro w7 hg7 hb7 hk7 hz7; have hb7' : Below w6.heap.size w6 w7 := (balloc (Below.refl w6.heap.size w6) (.cells z9 93)).trans hb7; have hB7 := hB6.trans (hb7'.mono hz6); have hw7 := heap_later hg6 hb7'))
  have HXX := Lib.hid (fun w' (hb : Below w7.heap.size w7 w') => HX.out w6.heap.size 3 _ w' (heap_later hg7 hb))
  have hz7' := hB7.size
  refine wp_region_mix (fun w' => Below w7.heap.size w7 w') [2] [0, 1, 2, 3, 4] (by kernel_rfl) (by kernel_rfl) (fun _ _ d _ _ h => by cases d <;> exact h) (by kernel_rfl) rfl ((Same.refl w7).drew _) ?_
  refine mix_take 0 _ (.agg (spA3 x y z)) rfl rfl rfl (some 39) rfl (fun w' hw' => exec_row _ _ rfl (w4.heap.size) rfl (spA3 x y z) (blk_load blkWt w' _ _ (heap_later hw7 (hw' : Below w7.heap.size w7 w')) (spA3_size _ _ _))) ?_
  simp only [Act.put, List.setIfInBounds_toArray, List.set_cons_zero, List.set_cons_succ]
  refine mix_take 1 _ ?_ rfl rfl rfl (some 40) rfl (fun w' hw' => ?hv1) ?_
  case hv1 =>
    go_simp
    with_reducible rfl
  simp only [Act.put, List.setIfInBounds_toArray, List.set_cons_zero, List.set_cons_succ]
  refine mix_call 2 _ rfl rfl rfl 84 #[.agg (spA3 x y z), .slice (some ⟨w6.heap.size, 0, none⟩) 3 3] (some 41) rfl ?hr2 ?_
  case hr2 => go_simp
  refine (HXX.out _ ((Same.refl w7).drew _)).mono ?_
  rintro e w8 ⟨v, rfl, ho8, hb8⟩
  have hb8' : Below w7.heap.size w7 w8 := ((Same.refl w7).drew w7.heap.size).trans hb8
  refine ⟨_, rfl, hb8', ?_⟩
  simp only [Act.put, List.setIfInBounds_toArray, List.set_cons_zero, List.set_cons_succ]
  refine mix_take 3 _ ?_ rfl rfl rfl (some 8) rfl (fun w' hw' => ?hv3) ?_
  case hv3 =>
    go_simp
    with_reducible rfl
  simp only [Act.put, List.setIfInBounds_toArray, List.set_cons_zero, List.set_cons_succ]
  refine mix_take 4 _ ?_ rfl rfl rfl (some 9) rfl (fun w' hw' => ?hv4) ?_
  case hv4 =>
    go_simp
    with_reducible rfl
  simp only [Act.put, List.setIfInBounds_toArray, List.set_cons_zero, List.set_cons_succ]
  refine mix_done ?_
  obtain ⟨va, vc, vb, rfl, -, -⟩ := oi_shape ho8
  go_wp2_with fail
  go_returns
  obtain ⟨et, ho1, ho2⟩ := ho8
  exact ⟨_, rfl, ⟨et, own_base ho1 hz7', ho2⟩, bnext hB7 hb8'⟩
set_option maxHeartbeats 800000 in
theorem specImageOfWeights_no (n c : Int) (im : List (List Int)) (xs : List Int) (hno : (okM n im c && gvB xs) = false) (a a2 : Option Addr) (cap cap2 : Nat) (w : World) (h : RdSS w w.heap.size a im) (hx : RdS w w.heap.size a2 xs) :
    Calls Try.prog 46 #[.int .i64 n, .slice a im.length cap, .int .i64 c, .slice a2 xs.length cap2] w (OutImageOfWeights w [] false) := by
  have HA := Lib.hid (fxAsked_any n im c a cap _ w h)
  have HG := Lib.hid (fun w' (hs : Same w w') => fxGiven_any xs a2 cap2 _ w' (rds_same hx hs))
  clear h hx
  cases hO : okM n im c
  · rw [hO] at HA
    clear hno hO
    go_enter Try.func46, Try.ntmps46
    go_wp2_with fail
    refine HA.out.mono ?_
    rintro e w1 ⟨rfl, hs1⟩
    go_wp2_with fail
    go_returns
    exact ⟨_, rfl, oi_nil _ _ _, hs1 _⟩
  · have HG0 : Hid (gvB xs = false) := Lib.hid (by rw [hO] at hno; exact hno)
    rw [hO] at HA
    clear hno hO
    go_enter Try.func46, Try.ntmps46
    go_wp2_with fail
    refine HA.out.mono ?_
    rintro e w1 ⟨rfl, hs1⟩
    go_wp2_with fail
    refine (HG.out _ hs1).mono ?_
    rintro e w2 ⟨rfl, hs2⟩
    rw [HG0.out]
    go_wp2_with fail
    go_returns
    exact ⟨_, rfl, oi_nil _ _ _, (hs1 _).trans (hs2 _)⟩
set_option maxHeartbeats 1600000 in
theorem implImageOfWeights_no (n c : Int) (im : List (List Int)) (xs : List Int) (hno : (okM n im c && gvB xs) = false) (a a2 : Option Addr) (cap cap2 : Nat) (w : World) (h : RdSS w w.heap.size a im) (hx : RdS w w.heap.size a2 xs) :
    Calls Try.prog 47 #[.int .i64 n, .slice a im.length cap, .int .i64 c, .slice a2 xs.length cap2] w (OutImageOfWeights w [] false) := by
  have HW := Lib.hid (fun w' (hb : Below w.heap.size w w') => weightsOf_any xs a2 cap2 _ w' (rds_later hx hb) hb.size)
  have hVs := wtV_size xs
  have hVo := wtV_one xs
  clear hx
  generalize wtV xs = V at *
  cases hO : okM n im c
  · have HM := Lib.hid (mappedCellOf_fail n c im hO a cap w h)
    generalize gvB xs = bb at *
    clear hno hO h
    go_enter Try.func47, Try.ntmps47
    go_wp2_with fail
    refine HM.out.mono ?_
    rintro e w1 ⟨arr, ha1, ha2, rfl, hb1⟩
    have hz1 := hb1.size
    obtain ⟨gA, gB⟩ := heap2 w1 (.cells zeroM 53) (.cells zspot 61)
    have hAB := balloc (balloc hb1 (.cells zeroM 53)) (.cells zspot 61)
    have hAz : ((w1.alloc (.cells zeroM 53)).alloc (.cells zspot 61)).heap.size = w1.heap.size + 2 := by simp
    go_wp2_with (first | (with_reducible refine alloc_blk zeroM run_alloc_map rfl rfl ?_) | ((with_reducible refine alloc_blk zspot run_alloc_tr rfl rfl ?_); simp only [World.size_alloc, Act.put, List.setIfInBounds_toArray, List.set_cons_zero, List.set_cons_succ]) | ((with_reducible refine store_blk blkM rfl _ _ rfl (w1.heap.size) (arr) (zeroM) ?_ ?_ gA (zeroM_size) (ha1) (ha2) (w.heap.size) (by omega) ?_); exact rfl; exact rfl; intro w2 hg2 hb2 hk2 hz2; have gB2 := (hk2 (w1.heap.size + 1) (by omega)).trans gB) | ((with_reducible refine store_blk blkTr rfl _ _ rfl (w1.heap.size + 1) (zspot) (zspot) ?_ ?_ gB2 (zspot_size) (zspot_size) (zspot_one) (w.heap.size) (by omega) ?_); exact rfl; exact rfl; intro w3 hg3 hb3 hk3 hz3; have gA3 := (hk3 w1.heap.size (by omega)).trans hg2; have hB3 := (hAB.trans hb2).trans hb3))
    refine (HW.out _ hB3).mono ?_
    rintro e w4 ⟨rfl, hb4⟩
    have hB4 := bnext hB3 hb4
    have hz4 := hB4.size
    clear hb4 gA3 hg3 hb3 hk3 hz3 hB3 hg2 hb2 hk2 hz2 gB2 gA gB hAB hAz
    go_wp2_with (first | (with_reducible refine alloc_blk zspot run_alloc_wt rfl rfl ?_) | ((with_reducible refine store_blk blkWt rfl _ _ rfl (w4.heap.size) (V) (zspot) ?_ ?_ (heap_alloc_new _ _) (zspot_size) (hVs) (hVo) (w4.heap.size) (by omega) ?_); exact rfl; exact rfl; intro w5 hg5 hb5 hk5 hz5; have hb5' : Below w4.heap.size w4 w5 := (balloc (Below.refl w4.heap.size w4) (.cells zspot 74)).trans hb5; have hB5 := hB4.trans (hb5'.mono hz4)))
    go_returns
    exact ⟨_, rfl, oi_nil _ _ _, hB5⟩
  · have hg : gvB xs = false := by rw [hO] at hno; exact hno
    obtain ⟨n, k, rfl, rfl, h1, h2, hy, hk⟩ := okM_yes hO
    have HM := Lib.hid (mappedCellOf_yes n k h1 h2 hk im hy a cap w h)
    rw [hg] at HW
    clear hno hO hg h hy
    go_enter Try.func47, Try.ntmps47
    go_wp2_with fail
    refine HM.out.mono ?_
    rintro e w1 ⟨rfl, hb1⟩
    have hz1 := hb1.size
    obtain ⟨gA, gB⟩ := heap2 w1 (.cells zeroM 53) (.cells zspot 61)
    have hAB := balloc (balloc hb1 (.cells zeroM 53)) (.cells zspot 61)
    have hAz : ((w1.alloc (.cells zeroM 53)).alloc (.cells zspot 61)).heap.size = w1.heap.size + 2 := by simp
    go_wp2_with (first | (with_reducible refine alloc_blk zeroM run_alloc_map rfl rfl ?_) | ((with_reducible refine alloc_blk zspot run_alloc_tr rfl rfl ?_); simp only [World.size_alloc, Act.put, List.setIfInBounds_toArray, List.set_cons_zero, List.set_cons_succ]) | ((with_reducible refine store_blk blkM rfl _ _ rfl (w1.heap.size) (mapA n im) (zeroM) ?_ ?_ gA (zeroM_size) (mapA_size _ _) (mapA_one _ _) (w.heap.size) (by omega) ?_); exact rfl; exact rfl; intro w2 hg2 hb2 hk2 hz2; have gB2 := (hk2 (w1.heap.size + 1) (by omega)).trans gB) | ((with_reducible refine store_blk blkTr rfl _ _ rfl (w1.heap.size + 1) (trA n k) (zspot) ?_ ?_ gB2 (zspot_size) (trA_size _ _) (trA_one _ _) (w.heap.size) (by omega) ?_); exact rfl; exact rfl; intro w3 hg3 hb3 hk3 hz3; have gA3 := (hk3 w1.heap.size (by omega)).trans hg2; have hB3 := (hAB.trans hb2).trans hb3))
    refine (HW.out _ hB3).mono ?_
    rintro e w4 ⟨rfl, hb4⟩
    have hB4 := bnext hB3 hb4
    have hz4 := hB4.size
    clear hb4 gA3 hg3 hb3 hk3 hz3 hB3 hg2 hb2 hk2 hz2 gB2 gA gB hAB hAz
    go_wp2_with (first | (with_reducible refine alloc_blk zspot run_alloc_wt rfl rfl ?_) | ((with_reducible refine store_blk blkWt rfl _ _ rfl (w4.heap.size) (V) (zspot) ?_ ?_ (heap_alloc_new _ _) (zspot_size) (hVs) (hVo) (w4.heap.size) (by omega) ?_); exact rfl; exact rfl; intro w5 hg5 hb5 hk5 hz5; have hb5' : Below w4.heap.size w4 w5 := (balloc (Below.refl w4.heap.size w4) (.cells zspot 74)).trans hb5; have hB5 := hB4.trans (hb5'.mono hz4)))
    go_returns
    exact ⟨_, rfl, oi_nil _ _ _, hB5⟩
theorem mxr_small' (W : Nat → Int) (P : Nat → Nat → Int) : (mxr W P 3 0).length ≤ 100000 := by rw [mxr_len]; omega
theorem law_ImageOfWeights (w : World) (n : Int) (_ : (Lit.int .i64 n).wf = true) (im : List (List Int)) (a_im : Option Addr) (c_im : Nat) (h_im : RdSS w w.heap.size a_im im) (c : Int) (_ : (Lit.int .i64 c).wf = true) (g : List Int) (a_g : Option Addr) (c_g : Nat) (h_g : RdS w w.heap.size a_g g) :
    Calls Try.prog 14 #[.int .i64 n, .slice a_im im.length c_im, .int .i64 c, .slice a_g g.length c_g] w fun e w' => e = .returned (.bool true) ∧ Below w.heap.size w w' := by
  cases h : (okM n im c && gvB g)
  · exact lawOf_ImageOfWeights n im a_im c_im c g a_g c_g w h_im h_g _ _ (by simp) (fun a c' a2 c2 w' _ _ h1 h2 => specImageOfWeights_no n c im g h a a2 c' c2 w' h1 h2) (fun a c' a2 c2 w' _ _ h1 h2 => implImageOfWeights_no n c im g h a a2 c' c2 w' h1 h2)
  · rw [Bool.and_eq_true] at h
    obtain ⟨n, k, rfl, rfl, h1, h2, hy, hk⟩ := okM_yes h.1
    exact lawOf_ImageOfWeights n im a_im c_im k g a_g c_g w h_im h_g _ _ (mxr_small' _ _) (fun a c a2 c2 w' _ _ h3 h4 => specImageOfWeights_yes n k h1 h2 hk im hy g h.2 a a2 c c2 w' h3 h4) (fun a c a2 c2 w' _ _ h3 h4 => implImageOfWeights_yes n k h1 h2 hk im hy g h.2 a a2 c c2 w' h3 h4)
end Go.Proofs.Ytelchpdlfedleaa
