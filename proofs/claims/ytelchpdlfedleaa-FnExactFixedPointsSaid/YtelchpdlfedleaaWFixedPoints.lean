import Derived.Test.YtelchpdlfedleaaS36
namespace Go.Proofs.Ytelchpdlfedleaa
open Go.RowKit
set_option maxRecDepth 4000
def OutFixedPoints (w : World) (r0 : List (List Int)) (r1 : Bool) (e : Ending) (w' : World) : Prop := ∃ v0, e = .returned (.tuple #[v0, .bool r1]) ∧ OSS w' w.heap.size w'.heap.size v0 r0 ∧ Below w.heap.size w w'
set_option maxHeartbeats 3200000 in
theorem lawOf_FixedPoints (n : Int) (im : List (List Int)) (a_im : Option Addr) (c_im : Nat) (w : World) (h_im : RdSS w w.heap.size a_im im) (r0 : List (List Int)) (r1 : Bool) (hL0 : r0.length ≤ 100000) (hR0 : ∀ k, (r0.getD k []).length ≤ 1000)
    (hs : ∀ (a_im' : Option Addr) (c_im' : Nat) (w' : World), SmallSS im → RdSS w' w'.heap.size a_im' im → Calls Try.prog 39 #[.int .i64 n, .slice a_im' im.length c_im'] w' (OutFixedPoints w' r0 r1))
    (hi : ∀ (a_im' : Option Addr) (c_im' : Nat) (w' : World), SmallSS im → RdSS w' w'.heap.size a_im' im → Calls Try.prog 40 #[.int .i64 n, .slice a_im' im.length c_im'] w' (OutFixedPoints w' r0 r1)) :
    Calls Try.prog 11 #[.int .i64 n, .slice a_im im.length c_im] w fun e w' => e = .returned (.bool true) ∧ Below w.heap.size w w' := by
  have HS := Lib.hid hs
  have HI := Lib.hid hi
  clear hs hi
  have hne1 : (r1 != r1) = false := by simp
  obtain ⟨ls0, hls0, hsm0, hln0⟩ : ∃ ls : List Nat, Lens ls r0 ∧ (∀ i, ls.getD i 0 ≤ 1000) ∧ ls.length ≤ 100000 := ⟨r0.map List.length, lens_self r0, fun i => by rw [← (lens_self r0).2 i]; exact hR0 i, by simpa using hL0⟩
  have HLS0 := Lib.hid hls0
  have HSM0 := Lib.hid (show ∀ j, ls0.getD j 0 ≤ 1048576 from fun j => Nat.le_trans (hsm0 j) (by omega))
  have hto0 : offs ls0 ls0.length ≤ 100000000 := Nat.le_trans (offs_le ls0 hsm0 ls0.length) (by omega)
  clear hls0 hsm0 hR0
  have hB0 : Below w.heap.size w w := Below.refl _ _
  go_enter Try.func11, Try.ntmps11
  go_wp2_with fail
  refine (szIntSS_any im a_im c_im _ 1048576 (by omega) (by omega) w h_im).mono ?_
  rintro e w' ⟨l1, rfl, rfl, hl⟩
  rcases hl with hl | ⟨hl0_0, hl1_0, hsz_im⟩
  · go_wp2_with fail
    go_ret
    exact ⟨rfl, Below.refl _ _⟩
  go_wp2_with fail
  refine (toIntSS_any im a_im c_im _ _ h_im (by omega) hsz_im).mono ?_
  rintro e w1 ⟨v_imp, rfl, o_imp, hb⟩
  have hc := chg_below hb
  clear hb
  have z1 := hc.size
  replace h_im := rdss_chg h_im hc (by omega) (by omega)
  replace hB0 := below_chg hB0 hc (by omega) (by omega)
  clear hc
  obtain ⟨a_imp, c_imp, rfl, rd_imp⟩ := oss_shape o_imp
  go_wp2_with fail
  refine (HS.out a_imp c_imp _ hsz_im (rdss_mono rd_imp (by omega))).mono ?_
  rintro e w2 ⟨vs0, rfl, os0, hb⟩
  have hc := chg_below hb
  clear hb
  clear rd_imp
  have z2 := hc.size
  replace h_im := rdss_chg h_im hc (by omega) (by omega)
  replace o_imp := oss_keep o_imp hc (by omega) (by omega)
  replace hB0 := below_chg hB0 hc (by omega) (by omega)
  clear hc
  obtain ⟨as0, cs0, rfl, -⟩ := oss_shape os0
  go_wp2_with fail
  clear o_imp
  refine (toIntSS_any im a_im c_im _ _ h_im (by omega) hsz_im).mono ?_
  rintro e w3 ⟨v_imx, rfl, o_imx, hb⟩
  have hc := chg_below hb
  clear hb
  have z3 := hc.size
  replace h_im := rdss_chg h_im hc (by omega) (by omega)
  replace os0 := oss_keep os0 hc (by omega) (by omega)
  replace hB0 := below_chg hB0 hc (by omega) (by omega)
  clear hc
  obtain ⟨a_imx, c_imx, rfl, rd_imx⟩ := oss_shape o_imx
  go_wp2_with fail
  refine (HI.out a_imx c_imx _ hsz_im (rdss_mono rd_imx (by omega))).mono ?_
  rintro e w4 ⟨vg0, rfl, og0, hb⟩
  have hc := chg_below hb
  clear hb
  clear rd_imx
  have z4 := hc.size
  replace h_im := rdss_chg h_im hc (by omega) (by omega)
  replace os0 := oss_keep os0 hc (by omega) (by omega)
  replace o_imx := oss_keep o_imx hc (by omega) (by omega)
  replace hB0 := below_chg hB0 hc (by omega) (by omega)
  clear hc
  obtain ⟨ag0, cg0, rfl, -⟩ := oss_shape og0
  go_wp2_with fail
  refine (eqIntSS_rd r0 ag0 as0 _ _ cg0 cs0 _ (oss_rds og0) (oss_rds os0)).mono ?_
  rintro e w5 ⟨rfl, hs⟩
  have hc := chg_same hs
  clear hs
  have z5 := hc.size
  replace h_im := rdss_chg h_im hc (by omega) (by omega)
  replace os0 := oss_keep os0 hc (by omega) (by omega)
  replace o_imx := oss_keep o_imx hc (by omega) (by omega)
  replace og0 := oss_keep og0 hc (by omega) (by omega)
  replace hB0 := below_chg hB0 hc (by omega) (by omega)
  clear hc
  go_wp2_with fail
  refine (toIntSS_any im a_im c_im _ _ h_im (by omega) hsz_im).mono ?_
  rintro e w6 ⟨v_imy, rfl, o_imy, hb⟩
  have hc := chg_below hb
  clear hb
  have z6 := hc.size
  replace h_im := rdss_chg h_im hc (by omega) (by omega)
  replace os0 := oss_keep os0 hc (by omega) (by omega)
  replace o_imx := oss_keep o_imx hc (by omega) (by omega)
  replace og0 := oss_keep og0 hc (by omega) (by omega)
  replace hB0 := below_chg hB0 hc (by omega) (by omega)
  clear hc
  obtain ⟨a_imy, c_imy, rfl, -⟩ := oss_shape o_imy
  go_wp2_with fail
  refine (eqIntSS_rd im a_imx a_imy _ _ c_imx c_imy _ (oss_rds o_imx) (oss_rds o_imy)).mono ?_
  rintro e w7 ⟨rfl, hs⟩
  have hc := chg_same hs
  clear hs
  have z7 := hc.size
  replace h_im := rdss_chg h_im hc (by omega) (by omega)
  replace os0 := oss_keep os0 hc (by omega) (by omega)
  replace o_imx := oss_keep o_imx hc (by omega) (by omega)
  replace og0 := oss_keep og0 hc (by omega) (by omega)
  replace o_imy := oss_keep o_imy hc (by omega) (by omega)
  replace hB0 := below_chg hB0 hc (by omega) (by omega)
  clear hc
  go_wp2_with fail
  clear o_imy
  obtain ⟨lx0, hlx0, hsx0, hnx0⟩ := small_lens hsz_im
  refine (markIntSS_chg lx0 im hlx0 hsx0 hnx0 a_imx _ _ c_imx _ (by omega) (by omega) _ o_imx).mono ?_
  rintro e w8 ⟨rfl, -, hc⟩
  have htx0 : offs lx0 lx0.length ≤ 1099511627776 := Nat.le_trans (offs_big lx0 hsx0 lx0.length) (by omega)
  clear hlx0 hsx0
  generalize offs lx0 lx0.length = tx0 at htx0 ⊢
  clear o_imx
  have z8 := hc.size
  replace h_im := rdss_chg h_im hc (by omega) (by omega)
  replace os0 := oss_keep os0 hc (by omega) (by omega)
  replace og0 := oss_keep og0 hc (by omega) (by omega)
  replace hB0 := below_chg hB0 hc (by omega) (by omega)
  clear hc
  go_wp2_with fail
  refine (eqIntSS_rd r0 ag0 as0 _ _ cg0 cs0 _ (oss_rds og0) (oss_rds os0)).mono ?_
  rintro e w9 ⟨rfl, hs⟩
  have hc := chg_same hs
  clear hs
  have z9 := hc.size
  replace h_im := rdss_chg h_im hc (by omega) (by omega)
  replace os0 := oss_keep os0 hc (by omega) (by omega)
  replace og0 := oss_keep og0 hc (by omega) (by omega)
  replace hB0 := below_chg hB0 hc (by omega) (by omega)
  clear hc
  go_wp2_with fail
  refine (markIntSS_chg ls0 r0 HLS0.out HSM0.out (by omega) ag0 _ _ cg0 1 (by omega) (by omega) _ og0).mono ?_
  rintro e w10 ⟨rfl, ⟨cm0, hmk0, om0⟩, hc⟩
  have HMK0 := Lib.hid hmk0
  clear hmk0
  clear og0
  have z10 := hc.size
  replace h_im := rdss_chg h_im hc (by omega) (by omega)
  replace os0 := oss_keep os0 hc (by omega) (by omega)
  replace hB0 := below_chg hB0 hc (by omega) (by omega)
  clear hc
  generalize hto0' : offs ls0 ls0.length = tot0 at hto0
  go_wp2_with fail
  refine (heldIntSS_rd ls0 cm0 1 (by omega) (by omega) HMK0.out HSM0.out (by omega) ag0 _ _ cg0 (by rw [HMK0.out.1.1, HLS0.out.1]) _ (oss_rds2 om0)).mono ?_
  rintro e w' ⟨rfl, rfl⟩
  rw [hto0']
  go_wp2_with fail
  refine (toIntSS_any im a_im c_im _ _ h_im (by omega) hsz_im).mono ?_
  rintro e w11 ⟨v_imz, rfl, o_imz, hb⟩
  have hc := chg_below hb
  clear hb
  have z11 := hc.size
  replace h_im := rdss_chg h_im hc (by omega) (by omega)
  replace os0 := oss_keep os0 hc (by omega) (by omega)
  replace om0 := oss_keep om0 hc (by omega) (by omega)
  replace hB0 := below_chg hB0 hc (by omega) (by omega)
  clear hc
  obtain ⟨a_imz, c_imz, rfl, rd_imz⟩ := oss_shape o_imz
  go_wp2_with fail
  refine (HI.out a_imz c_imz _ hsz_im (rdss_mono rd_imz (by omega))).mono ?_
  rintro e w12 ⟨vh0, rfl, oh0, hb⟩
  have hc := chg_below hb
  clear hb
  clear rd_imz
  have z12 := hc.size
  replace h_im := rdss_chg h_im hc (by omega) (by omega)
  replace os0 := oss_keep os0 hc (by omega) (by omega)
  replace om0 := oss_keep om0 hc (by omega) (by omega)
  replace o_imz := oss_keep o_imz hc (by omega) (by omega)
  replace hB0 := below_chg hB0 hc (by omega) (by omega)
  clear hc
  obtain ⟨ah0, ch0, rfl, -⟩ := oss_shape oh0
  go_wp2_with fail
  clear o_imz
  refine (eqIntSS_rd r0 ah0 as0 _ _ ch0 cs0 _ (oss_rds oh0) (oss_rds os0)).mono ?_
  rintro e w13 ⟨rfl, hs⟩
  have hc := chg_same hs
  clear hs
  have z13 := hc.size
  replace h_im := rdss_chg h_im hc (by omega) (by omega)
  replace os0 := oss_keep os0 hc (by omega) (by omega)
  replace om0 := oss_keep om0 hc (by omega) (by omega)
  replace oh0 := oss_keep oh0 hc (by omega) (by omega)
  replace hB0 := below_chg hB0 hc (by omega) (by omega)
  clear hc
  go_wp2_with fail
  refine (heldIntSS_rd ls0 cm0 1 (by omega) (by omega) HMK0.out HSM0.out (by omega) ag0 _ _ cg0 (by rw [HMK0.out.1.1, HLS0.out.1]) _ (oss_rds2 om0)).mono ?_
  rintro e w' ⟨rfl, rfl⟩
  rw [hto0']
  go_wp2_with fail
  go_ret
  exact ⟨rfl, hB0⟩
theorem specFixedPoints_yes (n : Nat) (h1 : 1 ≤ n) (h2 : n ≤ 5) (im : List (List Int)) (hy : imB n im = true) (hr : regB im n = true) (a : Option Addr) (cap : Nat) (w : World) (h : RdSS w w.heap.size a im) :
    Calls Try.prog 39 #[.int .i64 n, .slice a im.length cap] w (OutFixedPoints w (fwL im n (ci n).length) true) :=
  (specFixedPoints_yes0 n h1 h2 im hy hr a cap w h).mono fun _ _ ⟨v, e, hc, hb⟩ => ⟨v, e, oss_new hc, hb⟩
theorem implFixedPoints_yes (n : Nat) (h1 : 1 ≤ n) (h2 : n ≤ 5) (im : List (List Int)) (hy : imB n im = true) (hr : regB im n = true) (a : Option Addr) (cap : Nat) (w : World) (h : RdSS w w.heap.size a im) :
    Calls Try.prog 40 #[.int .i64 n, .slice a im.length cap] w (OutFixedPoints w (fwL im n (ci n).length) true) :=
  (implFixedPoints_yes0 n h1 h2 im hy hr a cap w h).mono fun _ _ ⟨v, e, hc, hb⟩ => ⟨v, e, oss_new hc, hb⟩
set_option maxHeartbeats 400000 in
theorem specFixedPoints_no (n : Int) (im : List (List Int)) (hy : imgB n im = false) (a : Option Addr) (cap B : Nat) (w : World) (h : RdSS w B a im) :
    Calls Try.prog 39 #[.int .i64 n, .slice a im.length cap] w (OutFixedPoints w [] false) := by
  have HT := Lib.hid (fxGood_no n im hy a cap _ w h)
  clear h hy
  go_enter Try.func39, Try.ntmps39
  go_wp2_with fail
  refine HT.out.mono ?_
  rintro e w1 ⟨rfl, hs⟩
  go_wp2_with fail
  go_returns
  exact ⟨_, rfl, oss_new (cells_nil _ _), hs _⟩
set_option maxHeartbeats 800000 in
theorem specFixedPoints_reg (n : Nat) (h1 : 1 ≤ n) (h2 : n ≤ 5) (im : List (List Int)) (hy : imB n im = true) (hr : regB im n = false) (a : Option Addr) (cap : Nat) (w : World) (h : RdSS w w.heap.size a im) :
    Calls Try.prog 39 #[.int .i64 n, .slice a im.length cap] w (OutFixedPoints w [] false) := by
  have HT := Lib.hid (fxGood_yes n h1 h2 im hy a cap _ w h)
  have HR := Lib.hid (fun w' (hs : Same w w') => fxRegular_any n h1 h2 im hy a cap w' (rdss_mono (rdss_same h hs) (hs w.heap.size).size))
  have HR0 : Hid (regB im n = false) := Lib.hid hr
  clear h hy hr
  go_enter Try.func39, Try.ntmps39
  go_wp2_with fail
  refine HT.out.mono ?_
  rintro e w1 ⟨rfl, hs⟩
  go_wp2_with fail
  refine (HR.out _ hs).mono ?_
  rintro e w2 ⟨rfl, hb2⟩
  rw [HR0.out]
  have hB2 := bnext (hs w.heap.size) hb2
  go_wp2_with fail
  go_returns
  exact ⟨_, rfl, oss_new (cells_nil _ _), hB2⟩
set_option maxHeartbeats 800000 in
theorem implFixedPoints_reg (n : Nat) (h1 : 1 ≤ n) (h2 : n ≤ 5) (im : List (List Int)) (hy : imB n im = true) (hr : regB im n = false) (a : Option Addr) (cap : Nat) (w : World) (h : RdSS w w.heap.size a im) :
    Calls Try.prog 40 #[.int .i64 n, .slice a im.length cap] w (OutFixedPoints w [] false) := by
  have HC := Lib.hid (mappedOf_yes n h1 h2 im hy a cap w h)
  have HL := Lib.hid (fun w => isRegular_any n h1 h2 im hy w)
  have HR0 : Hid (regB im n = false) := Lib.hid hr
  clear h hy hr
  go_enter Try.func40, Try.ntmps40
  go_wp2_with fail
  refine (HC.out).mono ?_
  rintro e w1 ⟨rfl, hb1⟩
  have hz1 := hb1.size
  go_wp2_with (first | (with_reducible refine alloc_blk zeroM run_alloc_map rfl rfl ?_) | ((with_reducible refine store_blk blkM rfl _ _ rfl w1.heap.size (mapA n im) zeroM ?_ ?_ (heap_alloc_new _ _) zeroM_size (mapA_size _ _) (mapA_one _ _) w1.heap.size (Nat.le_refl _) ?_); exact rfl; exact rfl; intro w2 hg2 hb2 hk2 hz2; have hB2 : Below w.heap.size w w2 := (balloc hb1 _).trans (hb2.mono hz1)) | ((with_reducible refine load_blk blkM ?_ _ rfl (w1.heap.size) ?_ (mapA n im) hg2 (mapA_size _ _) ?_); exact rfl; exact rfl; simp only [Act.put, List.setIfInBounds_toArray, List.set_cons_zero, List.set_cons_succ]))
  refine (HL.out _).mono ?_
  rintro e w3 ⟨rfl, hb3⟩
  rw [HR0.out]
  have hB3 := bnext hB2 hb3
  go_wp2_with fail
  go_returns
  exact ⟨_, rfl, oss_new (cells_nil _ _), hB3⟩
set_option maxHeartbeats 400000 in
theorem implFixedPoints_no (n : Int) (im : List (List Int)) (hy : imgB n im = false) (a : Option Addr) (cap : Nat) (w : World) (h : RdSS w w.heap.size a im) :
    Calls Try.prog 40 #[.int .i64 n, .slice a im.length cap] w (OutFixedPoints w [] false) := by
  have HC := Lib.hid (mappedOf_fail n im hy a cap w h)
  clear h hy
  go_enter Try.func40, Try.ntmps40
  go_wp2_with fail
  refine (HC.out).mono ?_
  rintro e w1 ⟨rfl, hb1⟩
  have hz1 := hb1.size
  go_wp2_with (first | (with_reducible refine alloc_blk zeroM run_alloc_map rfl rfl ?_) | ((with_reducible refine store_blk blkM rfl _ _ rfl w1.heap.size (zeroM) zeroM ?_ ?_ (heap_alloc_new _ _) zeroM_size (zeroM_size) (zeroM_one) w1.heap.size (Nat.le_refl _) ?_); exact rfl; exact rfl; intro w2 hg2 hb2 hk2 hz2; have hB2 : Below w.heap.size w w2 := (balloc hb1 _).trans (hb2.mono hz1)))
  go_returns
  exact ⟨_, rfl, oss_new (cells_nil _ _), hB2⟩
theorem fwL_row (im : List (List Int)) (n m k : Nat) : ((fwL im n m).getD k []).length ≤ 1000 := by
  rw [List.getD_eq_getElem?_getD, fwL, List.getElem?_map]
  cases (ksL im n m)[k]? with
  | none => simp
  | some x => simp [fwr, wtK_len]
theorem law_FixedPoints (w : World) (n : Int) (_ : (Lit.int .i64 n).wf = true) (im : List (List Int)) (a_im : Option Addr) (c_im : Nat) (h_im : RdSS w w.heap.size a_im im) :
    Calls Try.prog 11 #[.int .i64 n, .slice a_im im.length c_im] w fun e w' => e = .returned (.bool true) ∧ Below w.heap.size w w' := by
  cases h : imgB n im
  · exact lawOf_FixedPoints n im a_im c_im w h_im _ _ (by simp) (by intro k; simp [List.getD]) (fun a c w' _ h' => specFixedPoints_no n im h a c _ w' h') (fun a c w' _ h' => implFixedPoints_no n im h a c w' h')
  · obtain ⟨n, rfl, h1, h2, hy⟩ := imgB_yes h
    cases hr : regB im n
    · exact lawOf_FixedPoints n im a_im c_im w h_im _ _ (by simp) (by intro k; simp [List.getD]) (fun a c w' _ h' => specFixedPoints_reg n h1 h2 im hy hr a c w' h') (fun a c w' _ h' => implFixedPoints_reg n h1 h2 im hy hr a c w' h')
    · exact lawOf_FixedPoints n im a_im c_im w h_im _ _ (by have := fwL_len im n (ci n).length; have := ci_len64 n (by omega); omega) (fun k => fwL_row im n _ k) (fun a c w' _ h => specFixedPoints_yes n h1 h2 im hy hr a c w' h) (fun a c w' _ h => implFixedPoints_yes n h1 h2 im hy hr a c w' h)
end Go.Proofs.Ytelchpdlfedleaa
