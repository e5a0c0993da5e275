import Derived.Test.YtelchpdlfedleaaS31
namespace Go.Proofs.Ytelchpdlfedleaa
open Go.RowKit
set_option maxRecDepth 4000
def OutWeightsIn (w : World) (r0 : List Int) (r1 : Bool) (e : Ending) (w' : World) : Prop := ∃ v0, e = .returned (.tuple #[v0, .bool r1]) ∧ OI w' w.heap.size w'.heap.size v0 r0 ∧ Below w.heap.size w w'
set_option maxHeartbeats 3200000 in
theorem lawOf_WeightsIn (n : Int) (im : List (List Int)) (a_im : Option Addr) (c_im : Nat) (c : Int) (w : World) (h_im : RdSS w w.heap.size a_im im) (r0 : List Int) (r1 : Bool) (hL0 : r0.length ≤ 100000)
    (hs : ∀ (a_im' : Option Addr) (c_im' : Nat) (w' : World), SmallSS im → RdSS w' w'.heap.size a_im' im → Calls Try.prog 33 #[.int .i64 n, .slice a_im' im.length c_im', .int .i64 c] w' (OutWeightsIn w' r0 r1))
    (hi : ∀ (a_im' : Option Addr) (c_im' : Nat) (w' : World), SmallSS im → RdSS w' w'.heap.size a_im' im → Calls Try.prog 34 #[.int .i64 n, .slice a_im' im.length c_im', .int .i64 c] w' (OutWeightsIn w' r0 r1)) :
    Calls Try.prog 8 #[.int .i64 n, .slice a_im im.length c_im, .int .i64 c] w fun e w' => e = .returned (.bool true) ∧ Below w.heap.size w w' := by
  have HS := Lib.hid hs
  have HI := Lib.hid hi
  clear hs hi
  have hne1 : (r1 != r1) = false := by simp
  have hB0 : Below w.heap.size w w := Below.refl _ _
  go_enter Try.func8, Try.ntmps8
  go_wp2_with fail
  refine (szIntSS_any im a_im c_im _ 1048576 (by omega) (by omega) w h_im).mono ?_
  rintro e w' ⟨l1, rfl, rfl, hl⟩
  rcases hl with hl | ⟨hl0_0, hl1_0, hsz_im⟩
  · go_wp2_with fail
    go_ret
    exact ⟨rfl, Below.refl _ _⟩
  go_wp2_with fail
  refine (toIntSS_any im a_im c_im _ _ h_im (by omega) hsz_im).mono ?_
  rintro e w1 ⟨v_imp, rfl, o_imp, hb⟩
  have hc := chg_below hb
  clear hb
  have z1 := hc.size
  replace h_im := rdss_chg h_im hc (by omega) (by omega)
  replace hB0 := below_chg hB0 hc (by omega) (by omega)
  clear hc
  obtain ⟨a_imp, c_imp, rfl, rd_imp⟩ := oss_shape o_imp
  go_wp2_with fail
  refine (HS.out a_imp c_imp _ hsz_im (rdss_mono rd_imp (by omega))).mono ?_
  rintro e w2 ⟨vs0, rfl, os0, hb⟩
  have hc := chg_below hb
  clear hb
  clear rd_imp
  have z2 := hc.size
  replace h_im := rdss_chg h_im hc (by omega) (by omega)
  replace o_imp := oss_keep o_imp hc (by omega) (by omega)
  replace hB0 := below_chg hB0 hc (by omega) (by omega)
  clear hc
  obtain ⟨as0, cs0, -, rfl, -⟩ := oi_shape os0
  go_wp2_with fail
  clear o_imp
  refine (toIntSS_any im a_im c_im _ _ h_im (by omega) hsz_im).mono ?_
  rintro e w3 ⟨v_imx, rfl, o_imx, hb⟩
  have hc := chg_below hb
  clear hb
  have z3 := hc.size
  replace h_im := rdss_chg h_im hc (by omega) (by omega)
  replace os0 := oi_keep os0 hc (by omega) (by omega)
  replace hB0 := below_chg hB0 hc (by omega) (by omega)
  clear hc
  obtain ⟨a_imx, c_imx, rfl, rd_imx⟩ := oss_shape o_imx
  go_wp2_with fail
  refine (HI.out a_imx c_imx _ hsz_im (rdss_mono rd_imx (by omega))).mono ?_
  rintro e w4 ⟨vg0, rfl, og0, hb⟩
  have hc := chg_below hb
  clear hb
  clear rd_imx
  have z4 := hc.size
  replace h_im := rdss_chg h_im hc (by omega) (by omega)
  replace os0 := oi_keep os0 hc (by omega) (by omega)
  replace o_imx := oss_keep o_imx hc (by omega) (by omega)
  replace hB0 := below_chg hB0 hc (by omega) (by omega)
  clear hc
  obtain ⟨ag0, cg0, -, rfl, -⟩ := oi_shape og0
  go_wp2_with fail
  refine (eqIntS_rd r0 ag0 as0 _ _ cg0 cs0 _ (oi_rds og0) (oi_rds os0)).mono ?_
  rintro e w5 ⟨rfl, hs⟩
  have hc := chg_same hs
  clear hs
  have z5 := hc.size
  replace h_im := rdss_chg h_im hc (by omega) (by omega)
  replace os0 := oi_keep os0 hc (by omega) (by omega)
  replace o_imx := oss_keep o_imx hc (by omega) (by omega)
  replace og0 := oi_keep og0 hc (by omega) (by omega)
  replace hB0 := below_chg hB0 hc (by omega) (by omega)
  clear hc
  go_wp2_with fail
  refine (toIntSS_any im a_im c_im _ _ h_im (by omega) hsz_im).mono ?_
  rintro e w6 ⟨v_imy, rfl, o_imy, hb⟩
  have hc := chg_below hb
  clear hb
  have z6 := hc.size
  replace h_im := rdss_chg h_im hc (by omega) (by omega)
  replace os0 := oi_keep os0 hc (by omega) (by omega)
  replace o_imx := oss_keep o_imx hc (by omega) (by omega)
  replace og0 := oi_keep og0 hc (by omega) (by omega)
  replace hB0 := below_chg hB0 hc (by omega) (by omega)
  clear hc
  obtain ⟨a_imy, c_imy, rfl, -⟩ := oss_shape o_imy
  go_wp2_with fail
  refine (eqIntSS_rd im a_imx a_imy _ _ c_imx c_imy _ (oss_rds o_imx) (oss_rds o_imy)).mono ?_
  rintro e w7 ⟨rfl, hs⟩
  have hc := chg_same hs
  clear hs
  have z7 := hc.size
  replace h_im := rdss_chg h_im hc (by omega) (by omega)
  replace os0 := oi_keep os0 hc (by omega) (by omega)
  replace o_imx := oss_keep o_imx hc (by omega) (by omega)
  replace og0 := oi_keep og0 hc (by omega) (by omega)
  replace o_imy := oss_keep o_imy hc (by omega) (by omega)
  replace hB0 := below_chg hB0 hc (by omega) (by omega)
  clear hc
  go_wp2_with fail
  clear o_imy
  obtain ⟨lx0, hlx0, hsx0, hnx0⟩ := small_lens hsz_im
  refine (markIntSS_chg lx0 im hlx0 hsx0 hnx0 a_imx _ _ c_imx _ (by omega) (by omega) _ o_imx).mono ?_
  rintro e w8 ⟨rfl, -, hc⟩
  have htx0 : offs lx0 lx0.length ≤ 1099511627776 := Nat.le_trans (offs_big lx0 hsx0 lx0.length) (by omega)
  clear hlx0 hsx0
  generalize offs lx0 lx0.length = tx0 at htx0 ⊢
  clear o_imx
  have z8 := hc.size
  replace h_im := rdss_chg h_im hc (by omega) (by omega)
  replace os0 := oi_keep os0 hc (by omega) (by omega)
  replace og0 := oi_keep og0 hc (by omega) (by omega)
  replace hB0 := below_chg hB0 hc (by omega) (by omega)
  clear hc
  go_wp2_with fail
  refine (eqIntS_rd r0 ag0 as0 _ _ cg0 cs0 _ (oi_rds og0) (oi_rds os0)).mono ?_
  rintro e w9 ⟨rfl, hs⟩
  have hc := chg_same hs
  clear hs
  have z9 := hc.size
  replace h_im := rdss_chg h_im hc (by omega) (by omega)
  replace os0 := oi_keep os0 hc (by omega) (by omega)
  replace og0 := oi_keep og0 hc (by omega) (by omega)
  replace hB0 := below_chg hB0 hc (by omega) (by omega)
  clear hc
  go_wp2_with fail
  refine (markIntS_chg r0 ag0 _ _ cg0 1 _ og0 (by omega) (by omega)).mono ?_
  rintro e w10 ⟨rfl, om0, hc⟩
  have hlm0 : (mkd 1 r0.length r0).length = r0.length := mkd_len _ _ _ (Nat.le_refl _)
  have HLM0 := Lib.hid hlm0
  clear hlm0
  clear og0
  have z10 := hc.size
  replace h_im := rdss_chg h_im hc (by omega) (by omega)
  replace os0 := oi_keep os0 hc (by omega) (by omega)
  replace hB0 := below_chg hB0 hc (by omega) (by omega)
  clear hc
  go_wp2_with fail
  refine (heldIntS_rd r0 1 ag0 _ _ cg0 _ HLM0.out (oi_rds2 om0) (by omega) (by omega)).mono ?_
  rintro e w' ⟨rfl, rfl⟩
  go_wp2_with fail
  refine (toIntSS_any im a_im c_im _ _ h_im (by omega) hsz_im).mono ?_
  rintro e w11 ⟨v_imz, rfl, o_imz, hb⟩
  have hc := chg_below hb
  clear hb
  have z11 := hc.size
  replace h_im := rdss_chg h_im hc (by omega) (by omega)
  replace os0 := oi_keep os0 hc (by omega) (by omega)
  replace om0 := oi_keep om0 hc (by omega) (by omega)
  replace hB0 := below_chg hB0 hc (by omega) (by omega)
  clear hc
  obtain ⟨a_imz, c_imz, rfl, rd_imz⟩ := oss_shape o_imz
  go_wp2_with fail
  refine (HI.out a_imz c_imz _ hsz_im (rdss_mono rd_imz (by omega))).mono ?_
  rintro e w12 ⟨vh0, rfl, oh0, hb⟩
  have hc := chg_below hb
  clear hb
  clear rd_imz
  have z12 := hc.size
  replace h_im := rdss_chg h_im hc (by omega) (by omega)
  replace os0 := oi_keep os0 hc (by omega) (by omega)
  replace om0 := oi_keep om0 hc (by omega) (by omega)
  replace o_imz := oss_keep o_imz hc (by omega) (by omega)
  replace hB0 := below_chg hB0 hc (by omega) (by omega)
  clear hc
  obtain ⟨ah0, ch0, -, rfl, -⟩ := oi_shape oh0
  go_wp2_with fail
  clear o_imz
  refine (eqIntS_rd r0 ah0 as0 _ _ ch0 cs0 _ (oi_rds oh0) (oi_rds os0)).mono ?_
  rintro e w13 ⟨rfl, hs⟩
  have hc := chg_same hs
  clear hs
  have z13 := hc.size
  replace h_im := rdss_chg h_im hc (by omega) (by omega)
  replace os0 := oi_keep os0 hc (by omega) (by omega)
  replace om0 := oi_keep om0 hc (by omega) (by omega)
  replace oh0 := oi_keep oh0 hc (by omega) (by omega)
  replace hB0 := below_chg hB0 hc (by omega) (by omega)
  clear hc
  go_wp2_with fail
  refine (heldIntS_rd r0 1 ag0 _ _ cg0 _ HLM0.out (oi_rds2 om0) (by omega) (by omega)).mono ?_
  rintro e w' ⟨rfl, rfl⟩
  go_wp2_with fail
  go_ret
  exact ⟨rfl, hB0⟩
set_option maxHeartbeats 400000 in
theorem specWeightsIn_no (n c : Int) (im : List (List Int)) (hy : okM n im c = false) (a : Option Addr) (cap B : Nat) (w : World) (h : RdSS w B a im) :
    Calls Try.prog 33 #[.int .i64 n, .slice a im.length cap, .int .i64 c] w (OutWeightsIn w [] false) := by
  have HT := Lib.hid (fxFixed_no n c im hy a cap _ w h)
  clear h hy
  go_enter Try.func33, Try.ntmps33
  go_wp2_with fail
  refine HT.out.mono ?_
  rintro e w1 ⟨rfl, hb⟩
  go_wp2_with fail
  go_returns
  exact ⟨_, rfl, oi_nil _ _ _, hb⟩
set_option maxHeartbeats 400000 in
theorem specWeightsIn_none (n k : Nat) (h1 : 1 ≤ n) (h2 : n ≤ 5) (hk : k < (ci n).length) (im : List (List Int)) (hy : imB n im = true) (hg : agK im n k = false) (a : Option Addr) (cap : Nat) (w : World) (h : RdSS w w.heap.size a im) :
    Calls Try.prog 33 #[.int .i64 n, .slice a im.length cap, .int .i64 k] w (OutWeightsIn w [] false) := by
  have HT := Lib.hid (fxFixed_cell n k h1 h2 hk im hy a cap w h)
  rw [hg] at HT
  clear h hy hg
  go_enter Try.func33, Try.ntmps33
  go_wp2_with fail
  refine HT.out.mono ?_
  rintro e w1 ⟨rfl, hb⟩
  go_wp2_with fail
  go_returns
  exact ⟨_, rfl, oi_nil _ _ _, hb⟩
set_option maxHeartbeats 800000 in
theorem implWeightsIn_no (n c : Int) (im : List (List Int)) (hy : okM n im c = false) (a : Option Addr) (cap : Nat) (w : World) (h : RdSS w w.heap.size a im) :
    Calls Try.prog 34 #[.int .i64 n, .slice a im.length cap, .int .i64 c] w (OutWeightsIn w [] false) := by
  have HC := Lib.hid (mappedCellOf_fail n c im hy a cap w h)
  clear h hy
  go_enter Try.func34, Try.ntmps34
  go_wp2_with fail
  refine (HC.out).mono ?_
  rintro e w1 ⟨arr, ha1, ha2, rfl, hb1⟩
  have hz1 := hb1.size
  obtain ⟨gA, gB⟩ := heap2 w1 (.cells zeroM 53) (.cells zspot 61)
  have hAB := balloc (balloc hb1 (.cells zeroM 53)) (.cells zspot 61)
  have hAz : ((w1.alloc (.cells zeroM 53)).alloc (.cells zspot 61)).heap.size = w1.heap.size + 2 := by simp
  go_wp2_with (first | (with_reducible refine alloc_blk zeroM run_alloc_map rfl rfl ?_) | ((with_reducible refine alloc_blk zspot run_alloc_tr rfl rfl ?_); simp only [World.size_alloc, Act.put, List.setIfInBounds_toArray, List.set_cons_zero, List.set_cons_succ]) | ((with_reducible refine store_blk blkM rfl _ _ rfl (w1.heap.size) (arr) (zeroM) ?_ ?_ gA (zeroM_size) (ha1) (ha2) (w.heap.size) (by omega) ?_); exact rfl; exact rfl; intro w2 hg2 hb2 hk2 hz2; have gB2 := (hk2 (w1.heap.size + 1) (by omega)).trans gB) | ((with_reducible refine store_blk blkTr rfl _ _ rfl (w1.heap.size + 1) (zspot) (zspot) ?_ ?_ gB2 (zspot_size) (zspot_size) (zspot_one) (w.heap.size) (by omega) ?_); exact rfl; exact rfl; intro w3 hg3 hb3 hk3 hz3; have gA3 := (hk3 w1.heap.size (by omega)).trans hg2; have hB3 := (hAB.trans hb2).trans hb3))
  go_returns
  exact ⟨_, rfl, oi_nil _ _ _, hB3⟩
set_option maxHeartbeats 1600000 in
theorem implWeightsIn_none (n k : Nat) (h1 : 1 ≤ n) (h2 : n ≤ 5) (hk : k < (ci n).length) (im : List (List Int)) (hy : imB n im = true) (hg : agK im n k = false) (a : Option Addr) (cap : Nat) (w : World) (h : RdSS w w.heap.size a im) :
    Calls Try.prog 34 #[.int .i64 n, .slice a im.length cap, .int .i64 k] w (OutWeightsIn w [] false) := by
  have HC := Lib.hid (mappedCellOf_yes n k h1 h2 hk im hy a cap w h)
  have HA := Lib.hid (fun w => areasIn_cell n k h1 h2 hk im hy w)
  have HG := Lib.hid (fun w => agree_cell n k im w)
  rw [hg] at HG
  clear h hy hg
  go_enter Try.func34, Try.ntmps34
  go_wp2_with fail
  refine (HC.out).mono ?_
  rintro e w1 ⟨rfl, hb1⟩
  have hz1 := hb1.size
  obtain ⟨gA, gB⟩ := heap2 w1 (.cells zeroM 53) (.cells zspot 61)
  have hAB := balloc (balloc hb1 (.cells zeroM 53)) (.cells zspot 61)
  have hAz : ((w1.alloc (.cells zeroM 53)).alloc (.cells zspot 61)).heap.size = w1.heap.size + 2 := by simp
  go_wp2_with (first | (with_reducible refine alloc_blk zeroM run_alloc_map rfl rfl ?_) | ((with_reducible refine alloc_blk zspot run_alloc_tr rfl rfl ?_); simp only [World.size_alloc, Act.put, List.setIfInBounds_toArray, List.set_cons_zero, List.set_cons_succ]) | ((with_reducible refine store_blk blkM rfl _ _ rfl (w1.heap.size) (mapA n im) (zeroM) ?_ ?_ gA (zeroM_size) (mapA_size _ _) (mapA_one _ _) (w.heap.size) (by omega) ?_); exact rfl; exact rfl; intro w2 hg2 hb2 hk2 hz2; have gB2 := (hk2 (w1.heap.size + 1) (by omega)).trans gB) | ((with_reducible refine store_blk blkTr rfl _ _ rfl (w1.heap.size + 1) (trA n k) (zspot) ?_ ?_ gB2 (zspot_size) (trA_size _ _) (trA_one _ _) (w.heap.size) (by omega) ?_); exact rfl; exact rfl; intro w3 hg3 hb3 hk3 hz3; have gA3 := (hk3 w1.heap.size (by omega)).trans hg2; have hB3 := (hAB.trans hb2).trans hb3) | ((with_reducible refine load_blk blkTr ?_ _ rfl (w1.heap.size + 1) ?_ (trA n k) hg3 (trA_size _ _) ?_); exact rfl; exact rfl; simp only [Act.put, List.setIfInBounds_toArray, List.set_cons_zero, List.set_cons_succ]) | ((with_reducible refine load_blk blkM ?_ _ rfl (w1.heap.size) ?_ (mapA n im) gA3 (mapA_size _ _) ?_); exact rfl; exact rfl; simp only [Act.put, List.setIfInBounds_toArray, List.set_cons_zero, List.set_cons_succ]))
  refine (HA.out _).mono ?_
  rintro e w4 ⟨rfl, hb4⟩
  go_wp2_with fail
  refine (HG.out _).mono ?_
  rintro e w5 ⟨rfl, hb5⟩
  have hB5 := bnext (bnext hB3 hb4) hb5
  go_wp2_with fail
  go_returns
  exact ⟨_, rfl, oi_nil _ _ _, hB5⟩
set_option maxHeartbeats 800000 in
theorem specWeightsIn_yes (n k : Nat) (h1 : 1 ≤ n) (h2 : n ≤ 5) (hk : k < (ci n).length) (im : List (List Int)) (hy : imB n im = true) (hg : agK im n k = true) (a : Option Addr) (cap : Nat) (w : World) (h : RdSS w w.heap.size a im) :
    Calls Try.prog 33 #[.int .i64 n, .slice a im.length cap, .int .i64 k] w (OutWeightsIn w (wtK im n k) true) := by
  have HT := Lib.hid (fxFixed_cell n k h1 h2 hk im hy a cap w h)
  rw [hg] at HT
  have he := Lib.hid (ci_eq n (by omega) h1)
  have HK := Lib.hid (fun w' rc rb (hb : Below w.heap.size w w') hr hl => fxWeights_cell n k h1 h2 hk im hy hg a cap rc rb w' (rdss_mono (rdss_later h hb) hb.size) hr hl)
  have hki : (k : Int) < ((ci n).length : Int) := by omega
  clear h hy hg
  go_enter Try.func33, Try.ntmps33
  go_wp2_with fail
  refine HT.out.mono ?_
  rintro e w1 ⟨rfl, hb1⟩
  go_wp2_with fail
  refine (meCells_any n h1 (by omega) _).mono ?_
  rintro e w2 ⟨v, rfl, hc, hb⟩
  rw [← he.out] at hc
  obtain ⟨sa, m, sc, rfl⟩ := cells_shape hc
  obtain ⟨rfl, g, rc, rb, rfl, hgl, c1, hrd, hrb⟩ := spec_cell6 (by omega) hc hk
  have hB2 := bnext hb1 hb
  clear hc hb1 hb
  go_wp2_with fail
  refine (HK.out _ rc rb hB2 hrd hrb).mono ?_
  rintro e w3 ⟨v, rfl, ho, hb3⟩
  obtain ⟨va, vc, vb, rfl, -, -⟩ := oi_shape ho
  have hz := hB2.size
  go_wp2_with fail
  go_returns
  obtain ⟨et, ho1, ho2⟩ := ho
  exact ⟨_, rfl, ⟨et, own_base ho1 hz, ho2⟩, bnext hB2 hb3⟩
set_option maxHeartbeats 1600000 in
theorem implWeightsIn_yes (n k : Nat) (h1 : 1 ≤ n) (h2 : n ≤ 5) (hk : k < (ci n).length) (im : List (List Int)) (hy : imB n im = true) (hg : agK im n k = true) (a : Option Addr) (cap : Nat) (w : World) (h : RdSS w w.heap.size a im) :
    Calls Try.prog 34 #[.int .i64 n, .slice a im.length cap, .int .i64 k] w (OutWeightsIn w (wtK im n k) true) := by
  have HC := Lib.hid (mappedCellOf_yes n k h1 h2 hk im hy a cap w h)
  have HA := Lib.hid (fun w => areasIn_cell n k h1 h2 hk im hy w)
  have HG := Lib.hid (fun w => agree_cell n k im w)
  have HS := Lib.hid (fun w => weights_cell n k h2 hk im hy hg w)
  have HWL := Lib.hid (wtA_list im n k)
  have HW3 := Lib.hid (wtK_len im n k)
  rw [hg] at HG
  clear h hy hg
  go_enter Try.func34, Try.ntmps34
  go_wp2_with fail
  refine (HC.out).mono ?_
  rintro e w1 ⟨rfl, hb1⟩
  have hz1 := hb1.size
  obtain ⟨gA, gB⟩ := heap2 w1 (.cells zeroM 53) (.cells zspot 61)
  have hAB := balloc (balloc hb1 (.cells zeroM 53)) (.cells zspot 61)
  have hAz : ((w1.alloc (.cells zeroM 53)).alloc (.cells zspot 61)).heap.size = w1.heap.size + 2 := by simp
  go_wp2_with (first | (with_reducible refine alloc_blk zeroM run_alloc_map rfl rfl ?_) | ((with_reducible refine alloc_blk zspot run_alloc_tr rfl rfl ?_); simp only [World.size_alloc, Act.put, List.setIfInBounds_toArray, List.set_cons_zero, List.set_cons_succ]) | ((with_reducible refine store_blk blkM rfl _ _ rfl (w1.heap.size) (mapA n im) (zeroM) ?_ ?_ gA (zeroM_size) (mapA_size _ _) (mapA_one _ _) (w.heap.size) (by omega) ?_); exact rfl; exact rfl; intro w2 hg2 hb2 hk2 hz2; have gB2 := (hk2 (w1.heap.size + 1) (by omega)).trans gB) | ((with_reducible refine store_blk blkTr rfl _ _ rfl (w1.heap.size + 1) (trA n k) (zspot) ?_ ?_ gB2 (zspot_size) (trA_size _ _) (trA_one _ _) (w.heap.size) (by omega) ?_); exact rfl; exact rfl; intro w3 hg3 hb3 hk3 hz3; have gA3 := (hk3 w1.heap.size (by omega)).trans hg2; have hB3 := (hAB.trans hb2).trans hb3) | ((with_reducible refine load_blk blkTr ?_ _ rfl (w1.heap.size + 1) ?_ (trA n k) hg3 (trA_size _ _) ?_); exact rfl; exact rfl; simp only [Act.put, List.setIfInBounds_toArray, List.set_cons_zero, List.set_cons_succ]) | ((with_reducible refine load_blk blkM ?_ _ rfl (w1.heap.size) ?_ (mapA n im) gA3 (mapA_size _ _) ?_); exact rfl; exact rfl; simp only [Act.put, List.setIfInBounds_toArray, List.set_cons_zero, List.set_cons_succ]))
  refine (HA.out _).mono ?_
  rintro e w4 ⟨rfl, hb4⟩
  go_wp2_with fail
  refine (HG.out _).mono ?_
  rintro e w5 ⟨rfl, hb5⟩
  have hB45 := bnext hb4 hb5
  have hB5 := bnext hB3 hB45
  have gA5 := heap_later gA3 hB45
  have gB5 := heap_later hg3 hB45
  go_wp2_with (first | ((with_reducible refine load_blk blkTr ?_ _ rfl (w1.heap.size + 1) ?_ (trA n k) gB5 (trA_size _ _) ?_); exact rfl; exact rfl; simp only [Act.put, List.setIfInBounds_toArray, List.set_cons_zero, List.set_cons_succ]) | ((with_reducible refine load_blk blkM ?_ _ rfl (w1.heap.size) ?_ (mapA n im) gA5 (mapA_size _ _) ?_); exact rfl; exact rfl; simp only [Act.put, List.setIfInBounds_toArray, List.set_cons_zero, List.set_cons_succ]))
  refine (HA.out _).mono ?_
  rintro e w6 ⟨rfl, hb6⟩
  have hB6 := bnext hB5 hb6
  go_wp2_with fail
  refine (HS.out _).mono ?_
  rintro e w7 ⟨rfl, hb7⟩
  have hB7 := bnext hB6 hb7
  have hz7 := hB7.size
  go_wp2_with (first | (with_reducible refine alloc_blk zspot run_alloc_wt rfl rfl ?_) | ((with_reducible refine store_blk blkWt rfl _ _ rfl (w7.heap.size) (wtA im n k) (zspot) ?_ ?_ (heap_alloc_new _ _) (zspot_size) (wtA_size _ _ _) (wtA_one _ _ _) (w.heap.size) (by omega) ?_); exact rfl; exact rfl; intro w8 hg8 hb8 hk8 hz8; have hB8 := (balloc hB7 (.cells zspot 74)).trans hb8))
  go_returns
  have hlt8 : w7.heap.size < w8.heap.size := (Array.getElem?_eq_some_iff.1 hg8).1
  refine ⟨_, rfl, ?_, hB8⟩
  exact ⟨_, own_block (cap := 3) (xs := wtK im n k) hz7 hg8 HWL.out (by rw [HW3.out]) (by simp [maxLen]), fun j hj => by
    simp [Value.ownBlock] at hj
    subst hj
    exact hlt8⟩
theorem law_WeightsIn (w : World) (n : Int) (_ : (Lit.int .i64 n).wf = true) (im : List (List Int)) (a_im : Option Addr) (c_im : Nat) (h_im : RdSS w w.heap.size a_im im) (c : Int) (_ : (Lit.int .i64 c).wf = true) :
    Calls Try.prog 8 #[.int .i64 n, .slice a_im im.length c_im, .int .i64 c] w fun e w' => e = .returned (.bool true) ∧ Below w.heap.size w w' := by
  cases h : okM n im c
  · exact lawOf_WeightsIn n im a_im c_im c w h_im _ _ (by simp) (fun a c' w' _ h' => specWeightsIn_no n c im h a c' _ w' h') (fun a c' w' _ h' => implWeightsIn_no n c im h a c' w' h')
  · obtain ⟨n, k, rfl, rfl, h1, h2, hy, hk⟩ := okM_yes h
    cases hg : agK im n k
    · exact lawOf_WeightsIn n im a_im c_im k w h_im _ _ (by simp) (fun a c w' _ h => specWeightsIn_none n k h1 h2 hk im hy hg a c w' h) (fun a c w' _ h => implWeightsIn_none n k h1 h2 hk im hy hg a c w' h)
    · exact lawOf_WeightsIn n im a_im c_im k w h_im _ _ (by rw [wtK_len]; omega) (fun a c w' _ h => specWeightsIn_yes n k h1 h2 hk im hy hg a c w' h) (fun a c w' _ h => implWeightsIn_yes n k h1 h2 hk im hy hg a c w' h)
end Go.Proofs.Ytelchpdlfedleaa
