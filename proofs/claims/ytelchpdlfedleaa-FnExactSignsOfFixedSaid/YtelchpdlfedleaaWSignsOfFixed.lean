import Derived.Test.YtelchpdlfedleaaS35
namespace Go.Proofs.Ytelchpdlfedleaa
open Go.RowKit
set_option maxRecDepth 4000
def OutSignsOfFixed (w : World) (r0 : List Int) (r1 : Bool) (e : Ending) (w' : World) : Prop := ∃ v0, e = .returned (.tuple #[v0, .bool r1]) ∧ OI w' w.heap.size w'.heap.size v0 r0 ∧ Below w.heap.size w w'
set_option maxHeartbeats 3200000 in
theorem lawOf_SignsOfFixed (n : Int) (im : List (List Int)) (a_im : Option Addr) (c_im : Nat) (w : World) (h_im : RdSS w w.heap.size a_im im) (r0 : List Int) (r1 : Bool) (hL0 : r0.length ≤ 100000)
    (hs : ∀ (a_im' : Option Addr) (c_im' : Nat) (w' : World), SmallSS im → RdSS w' w'.heap.size a_im' im → Calls Try.prog 41 #[.int .i64 n, .slice a_im' im.length c_im'] w' (OutSignsOfFixed w' r0 r1))
    (hi : ∀ (a_im' : Option Addr) (c_im' : Nat) (w' : World), SmallSS im → RdSS w' w'.heap.size a_im' im → Calls Try.prog 42 #[.int .i64 n, .slice a_im' im.length c_im'] w' (OutSignsOfFixed w' r0 r1)) :
    Calls Try.prog 12 #[.int .i64 n, .slice a_im im.length c_im] w fun e w' => e = .returned (.bool true) ∧ Below w.heap.size w w' := by
  have HS := Lib.hid hs
  have HI := Lib.hid hi
  clear hs hi
  have hne1 : (r1 != r1) = false := by simp
  have hB0 : Below w.heap.size w w := Below.refl _ _
  go_enter Try.func12, Try.ntmps12
  go_wp2_with fail
  refine (szIntSS_any im a_im c_im _ 1048576 (by omega) (by omega) w h_im).mono ?_
  rintro e w' ⟨l1, rfl, rfl, hl⟩
  rcases hl with hl | ⟨hl0_0, hl1_0, hsz_im⟩
  · go_wp2_with fail
    go_ret
    exact ⟨rfl, Below.refl _ _⟩
  go_wp2_with fail
  refine (toIntSS_any im a_im c_im _ _ h_im (by omega) hsz_im).mono ?_
  rintro e w1 ⟨v_imp, rfl, o_imp, hb⟩
  have hc := chg_below hb
  clear hb
  have z1 := hc.size
  replace h_im := rdss_chg h_im hc (by omega) (by omega)
  replace hB0 := below_chg hB0 hc (by omega) (by omega)
  clear hc
  obtain ⟨a_imp, c_imp, rfl, rd_imp⟩ := oss_shape o_imp
  go_wp2_with fail
  refine (HS.out a_imp c_imp _ hsz_im (rdss_mono rd_imp (by omega))).mono ?_
  rintro e w2 ⟨vs0, rfl, os0, hb⟩
  have hc := chg_below hb
  clear hb
  clear rd_imp
  have z2 := hc.size
  replace h_im := rdss_chg h_im hc (by omega) (by omega)
  replace o_imp := oss_keep o_imp hc (by omega) (by omega)
  replace hB0 := below_chg hB0 hc (by omega) (by omega)
  clear hc
  obtain ⟨as0, cs0, -, rfl, -⟩ := oi_shape os0
  go_wp2_with fail
  clear o_imp
  refine (toIntSS_any im a_im c_im _ _ h_im (by omega) hsz_im).mono ?_
  rintro e w3 ⟨v_imx, rfl, o_imx, hb⟩
  have hc := chg_below hb
  clear hb
  have z3 := hc.size
  replace h_im := rdss_chg h_im hc (by omega) (by omega)
  replace os0 := oi_keep os0 hc (by omega) (by omega)
  replace hB0 := below_chg hB0 hc (by omega) (by omega)
  clear hc
  obtain ⟨a_imx, c_imx, rfl, rd_imx⟩ := oss_shape o_imx
  go_wp2_with fail
  refine (HI.out a_imx c_imx _ hsz_im (rdss_mono rd_imx (by omega))).mono ?_
  rintro e w4 ⟨vg0, rfl, og0, hb⟩
  have hc := chg_below hb
  clear hb
  clear rd_imx
  have z4 := hc.size
  replace h_im := rdss_chg h_im hc (by omega) (by omega)
  replace os0 := oi_keep os0 hc (by omega) (by omega)
  replace o_imx := oss_keep o_imx hc (by omega) (by omega)
  replace hB0 := below_chg hB0 hc (by omega) (by omega)
  clear hc
  obtain ⟨ag0, cg0, -, rfl, -⟩ := oi_shape og0
  go_wp2_with fail
  refine (eqIntS_rd r0 ag0 as0 _ _ cg0 cs0 _ (oi_rds og0) (oi_rds os0)).mono ?_
  rintro e w5 ⟨rfl, hs⟩
  have hc := chg_same hs
  clear hs
  have z5 := hc.size
  replace h_im := rdss_chg h_im hc (by omega) (by omega)
  replace os0 := oi_keep os0 hc (by omega) (by omega)
  replace o_imx := oss_keep o_imx hc (by omega) (by omega)
  replace og0 := oi_keep og0 hc (by omega) (by omega)
  replace hB0 := below_chg hB0 hc (by omega) (by omega)
  clear hc
  go_wp2_with fail
  refine (toIntSS_any im a_im c_im _ _ h_im (by omega) hsz_im).mono ?_
  rintro e w6 ⟨v_imy, rfl, o_imy, hb⟩
  have hc := chg_below hb
  clear hb
  have z6 := hc.size
  replace h_im := rdss_chg h_im hc (by omega) (by omega)
  replace os0 := oi_keep os0 hc (by omega) (by omega)
  replace o_imx := oss_keep o_imx hc (by omega) (by omega)
  replace og0 := oi_keep og0 hc (by omega) (by omega)
  replace hB0 := below_chg hB0 hc (by omega) (by omega)
  clear hc
  obtain ⟨a_imy, c_imy, rfl, -⟩ := oss_shape o_imy
  go_wp2_with fail
  refine (eqIntSS_rd im a_imx a_imy _ _ c_imx c_imy _ (oss_rds o_imx) (oss_rds o_imy)).mono ?_
  rintro e w7 ⟨rfl, hs⟩
  have hc := chg_same hs
  clear hs
  have z7 := hc.size
  replace h_im := rdss_chg h_im hc (by omega) (by omega)
  replace os0 := oi_keep os0 hc (by omega) (by omega)
  replace o_imx := oss_keep o_imx hc (by omega) (by omega)
  replace og0 := oi_keep og0 hc (by omega) (by omega)
  replace o_imy := oss_keep o_imy hc (by omega) (by omega)
  replace hB0 := below_chg hB0 hc (by omega) (by omega)
  clear hc
  go_wp2_with fail
  clear o_imy
  obtain ⟨lx0, hlx0, hsx0, hnx0⟩ := small_lens hsz_im
  refine (markIntSS_chg lx0 im hlx0 hsx0 hnx0 a_imx _ _ c_imx _ (by omega) (by omega) _ o_imx).mono ?_
  rintro e w8 ⟨rfl, -, hc⟩
  have htx0 : offs lx0 lx0.length ≤ 1099511627776 := Nat.le_trans (offs_big lx0 hsx0 lx0.length) (by omega)
  clear hlx0 hsx0
  generalize offs lx0 lx0.length = tx0 at htx0 ⊢
  clear o_imx
  have z8 := hc.size
  replace h_im := rdss_chg h_im hc (by omega) (by omega)
  replace os0 := oi_keep os0 hc (by omega) (by omega)
  replace og0 := oi_keep og0 hc (by omega) (by omega)
  replace hB0 := below_chg hB0 hc (by omega) (by omega)
  clear hc
  go_wp2_with fail
  refine (eqIntS_rd r0 ag0 as0 _ _ cg0 cs0 _ (oi_rds og0) (oi_rds os0)).mono ?_
  rintro e w9 ⟨rfl, hs⟩
  have hc := chg_same hs
  clear hs
  have z9 := hc.size
  replace h_im := rdss_chg h_im hc (by omega) (by omega)
  replace os0 := oi_keep os0 hc (by omega) (by omega)
  replace og0 := oi_keep og0 hc (by omega) (by omega)
  replace hB0 := below_chg hB0 hc (by omega) (by omega)
  clear hc
  go_wp2_with fail
  refine (markIntS_chg r0 ag0 _ _ cg0 1 _ og0 (by omega) (by omega)).mono ?_
  rintro e w10 ⟨rfl, om0, hc⟩
  have hlm0 : (mkd 1 r0.length r0).length = r0.length := mkd_len _ _ _ (Nat.le_refl _)
  have HLM0 := Lib.hid hlm0
  clear hlm0
  clear og0
  have z10 := hc.size
  replace h_im := rdss_chg h_im hc (by omega) (by omega)
  replace os0 := oi_keep os0 hc (by omega) (by omega)
  replace hB0 := below_chg hB0 hc (by omega) (by omega)
  clear hc
  go_wp2_with fail
  refine (heldIntS_rd r0 1 ag0 _ _ cg0 _ HLM0.out (oi_rds2 om0) (by omega) (by omega)).mono ?_
  rintro e w' ⟨rfl, rfl⟩
  go_wp2_with fail
  refine (toIntSS_any im a_im c_im _ _ h_im (by omega) hsz_im).mono ?_
  rintro e w11 ⟨v_imz, rfl, o_imz, hb⟩
  have hc := chg_below hb
  clear hb
  have z11 := hc.size
  replace h_im := rdss_chg h_im hc (by omega) (by omega)
  replace os0 := oi_keep os0 hc (by omega) (by omega)
  replace om0 := oi_keep om0 hc (by omega) (by omega)
  replace hB0 := below_chg hB0 hc (by omega) (by omega)
  clear hc
  obtain ⟨a_imz, c_imz, rfl, rd_imz⟩ := oss_shape o_imz
  go_wp2_with fail
  refine (HI.out a_imz c_imz _ hsz_im (rdss_mono rd_imz (by omega))).mono ?_
  rintro e w12 ⟨vh0, rfl, oh0, hb⟩
  have hc := chg_below hb
  clear hb
  clear rd_imz
  have z12 := hc.size
  replace h_im := rdss_chg h_im hc (by omega) (by omega)
  replace os0 := oi_keep os0 hc (by omega) (by omega)
  replace om0 := oi_keep om0 hc (by omega) (by omega)
  replace o_imz := oss_keep o_imz hc (by omega) (by omega)
  replace hB0 := below_chg hB0 hc (by omega) (by omega)
  clear hc
  obtain ⟨ah0, ch0, -, rfl, -⟩ := oi_shape oh0
  go_wp2_with fail
  clear o_imz
  refine (eqIntS_rd r0 ah0 as0 _ _ ch0 cs0 _ (oi_rds oh0) (oi_rds os0)).mono ?_
  rintro e w13 ⟨rfl, hs⟩
  have hc := chg_same hs
  clear hs
  have z13 := hc.size
  replace h_im := rdss_chg h_im hc (by omega) (by omega)
  replace os0 := oi_keep os0 hc (by omega) (by omega)
  replace om0 := oi_keep om0 hc (by omega) (by omega)
  replace oh0 := oi_keep oh0 hc (by omega) (by omega)
  replace hB0 := below_chg hB0 hc (by omega) (by omega)
  clear hc
  go_wp2_with fail
  refine (heldIntS_rd r0 1 ag0 _ _ cg0 _ HLM0.out (oi_rds2 om0) (by omega) (by omega)).mono ?_
  rintro e w' ⟨rfl, rfl⟩
  go_wp2_with fail
  go_ret
  exact ⟨rfl, hB0⟩
def flI (im : List (List Int)) (n : Nat) (ks : List Nat) (i : Nat) : List Int := (ks.take i).map (sgK im n)
set_option maxHeartbeats 3200000 in
theorem specSignsOfFixed_yes (n : Nat) (h1 : 1 ≤ n) (h2 : n ≤ 5) (im : List (List Int)) (hy : imB n im = true) (hr : regB im n = true) (a : Option Addr) (cap : Nat) (w : World) (h : RdSS w w.heap.size a im) :
    Calls Try.prog 41 #[.int .i64 n, .slice a im.length cap] w (OutSignsOfFixed w (sgL im n (ci n).length) true) := by
  have HT := Lib.hid (fxGood_yes n h1 h2 im hy a cap _ w h)
  have HR := Lib.hid (fun w' (hs : Same w w') => fxRegular_any n h1 h2 im hy a cap w' (rdss_mono (rdss_same h hs) (hs w.heap.size).size))
  have he := Lib.hid (ci_eq n (by omega) h1)
  have h64 := ci_len64 n (by omega)
  have HK := Lib.hid (fun w' k (hk : k < (ci n).length) rc rb (hb : Below w.heap.size w w') hr hl => fxIn_cell n k h1 h2 hk im hy a cap rc rb w' (rdss_mono (rdss_later h hb) hb.size) hr hl)
  have HS := Lib.hid (fun w' k (hk : k < (ci n).length) rc rb (hb : Below w.heap.size w w') hr hl => fxSign_cell n k h1 h2 hk im hy a cap rc rb w' (rdss_mono (rdss_later h hb) hb.size) hr hl)
  have HAG := Lib.hid (fun k (hk : k < (ci n).length) => reg_ag im n k (regB_at hr k hk))
  have HY := Lib.hid (sgL_yes im n)
  have HN := Lib.hid (sgL_no im n)
  have HLN := Lib.hid (sgL_len im n)
  have HR0 : Hid (regB im n = true) := Lib.hid hr
  have HK0 : Hid (sgL im n 0 = []) := Lib.hid rfl
  clear h hy hr
  go_enter Try.func41, Try.ntmps41
  go_wp2_with fail
  refine HT.out.mono ?_
  rintro e w1 ⟨rfl, hs⟩
  go_wp2_with fail
  refine (HR.out _ hs).mono ?_
  rintro e w2 ⟨rfl, hb2⟩
  rw [HR0.out]
  have hB2 := bnext (hs w.heap.size) hb2
  clear hs hb2
  go_wp2_with fail
  refine (meCells_any n h1 (by omega) _).mono ?_
  rintro e w3 ⟨v, rfl, hc, hb3⟩
  rw [← he.out] at hc
  obtain ⟨sa, m, sc, rfl⟩ := cells_shape hc
  obtain ⟨rfl, -, -⟩ := cells_row hc
  have hB3 := bnext hB2 hb3
  have hz3 := hB3.size
  clear hB2 hb3
  go_wp2_with fail
  go_loopw [6, 22] (fun v6 v22 wr => ∃ k : Nat, k ≤ (ci n).length ∧ v22 = .int .i64 k ∧ wr.ownsRow w3.heap.size 3 1 v6 (sgL im n k).length ((sgL im n k).map (Value.int .i64)) ∧ Below w3.heap.size w3 wr) (fun _ v22 _ => (ci n).length - (intOf v22).toNat)
  case atStart => exact ⟨0, Nat.zero_le _, rfl, by rw [HK0.out]; exact World.ownsRow_nil _ _ _ _, Below.refl _ _⟩
  case round =>
    obtain ⟨k, hk, rfl, ho, hb⟩ := hrel
    obtain ⟨wq, rfl⟩ : ∃ wq : World, wq = wr := ⟨_, rfl⟩
    by_cases hlt : k < (ci n).length
    · obtain ⟨-, g, rc, rb, rfl, hgl, c1, hrd, hrb⟩ := spec_cell6 (by omega) hc hlt
      have c1 := (hb.cell (p := ⟨g, k, none⟩) hgl).trans c1
      have hr1 := hrd.below hb (.inr hrb)
      have hz := hb.size
      have HX := Lib.hid (HK.out wq k hlt rc rb (bnext hB3 hb) hr1 (by omega))
      have HSX := Lib.hid (fun w' (hb' : Below wq.heap.size wq w') => HS.out w' k hlt rc rb (bnext (bnext hB3 hb) hb') (hr1.below hb' (.inr (by omega))) (by have := hb'.size; omega))
      have HA := Lib.hid (HAG.out k hlt)
      have HYk := Lib.hid (HY.out k)
      have HNk := Lib.hid (HN.out k)
      have hlk := HLN.out k
      have hki : (k : Int) < ((ci n).length : Int) := by omega
      clear hrd hr1
      go_wp2_with fail
      refine HX.out.mono ?_
      rintro e w4 ⟨rfl, hb4⟩
      have hB4 := bnext hb hb4
      have ho4 := own_now ho hb4
      have hz4 := hB4.size
      cases hG : agK im n k
      · have HE := Lib.hid (HNk.out hG)
        have hd : (hasK im n k != 0) = false := HA.out.trans hG
        clear hG
        go_wp2_with fail
        go_roundw
        case rel => exact ⟨k + 1, by omega, by go_num, by rw [HE.out]; exact ho4, hB4⟩
        case measure => simp [intOf]; omega
      · have HE := Lib.hid (HYk.out hG)
        have hd : (hasK im n k != 0) = true := HA.out.trans hG
        have HS2 := Lib.hid (HSX.out w4 hb4)
        clear hG
        go_wp2_with fail
        refine HS2.out.mono ?_
        rintro e w5 ⟨rfl, hb5⟩
        have hB5 := bnext hB4 hb5
        have ho5 := own_now ho4 hb5
        have hz5 := hB5.size
        go_wp2_with (at_builtin; refine append_int w3.heap.size _ _ (sgL im n k) _ rfl _ _ rfl rfl rfl ho5 hz5 (by omega) ?_; intro v' w6 ho6 hb6)
        go_roundw
        case rel => exact ⟨k + 1, by omega, by go_num, by rw [HE.out]; exact ho6, hB5.trans hb6⟩
        case measure => simp [intOf]; omega
    · have hk2 : k = (ci n).length := by omega
      rw [hk2] at ho
      clear hk2
      obtain ⟨-, ua, uc, ub, rfl, -, -⟩ := own_shape ho
      go_wp2_with fail
      go_returns
      exact ⟨_, rfl, ⟨_, own_base ho hz3, own_lt ho⟩, bnext hB3 hb⟩
set_option maxHeartbeats 400000 in
theorem specSignsOfFixed_no (n : Int) (im : List (List Int)) (hy : imgB n im = false) (a : Option Addr) (cap B : Nat) (w : World) (h : RdSS w B a im) :
    Calls Try.prog 41 #[.int .i64 n, .slice a im.length cap] w (OutSignsOfFixed w [] false) := by
  have HT := Lib.hid (fxGood_no n im hy a cap _ w h)
  clear h hy
  go_enter Try.func41, Try.ntmps41
  go_wp2_with fail
  refine HT.out.mono ?_
  rintro e w1 ⟨rfl, hs⟩
  go_wp2_with fail
  go_returns
  exact ⟨_, rfl, oi_nil _ _ _, hs _⟩
set_option maxHeartbeats 800000 in
theorem specSignsOfFixed_reg (n : Nat) (h1 : 1 ≤ n) (h2 : n ≤ 5) (im : List (List Int)) (hy : imB n im = true) (hr : regB im n = false) (a : Option Addr) (cap : Nat) (w : World) (h : RdSS w w.heap.size a im) :
    Calls Try.prog 41 #[.int .i64 n, .slice a im.length cap] w (OutSignsOfFixed w [] false) := by
  have HT := Lib.hid (fxGood_yes n h1 h2 im hy a cap _ w h)
  have HR := Lib.hid (fun w' (hs : Same w w') => fxRegular_any n h1 h2 im hy a cap w' (rdss_mono (rdss_same h hs) (hs w.heap.size).size))
  have HR0 : Hid (regB im n = false) := Lib.hid hr
  clear h hy hr
  go_enter Try.func41, Try.ntmps41
  go_wp2_with fail
  refine HT.out.mono ?_
  rintro e w1 ⟨rfl, hs⟩
  go_wp2_with fail
  refine (HR.out _ hs).mono ?_
  rintro e w2 ⟨rfl, hb2⟩
  rw [HR0.out]
  have hB2 := bnext (hs w.heap.size) hb2
  go_wp2_with fail
  go_returns
  exact ⟨_, rfl, oi_nil _ _ _, hB2⟩
set_option maxHeartbeats 3200000 in
theorem implSignsOfFixed_yes (n : Nat) (h1 : 1 ≤ n) (h2 : n ≤ 5) (im : List (List Int)) (hy : imB n im = true) (hr : regB im n = true) (a : Option Addr) (cap : Nat) (w : World) (h : RdSS w w.heap.size a im) :
    Calls Try.prog 42 #[.int .i64 n, .slice a im.length cap] w (OutSignsOfFixed w (sgL im n (ci n).length) true) := by
  have HC := Lib.hid (mappedOf_yes n h1 h2 im hy a cap w h)
  have HL := Lib.hid (fun w => isRegular_any n h1 h2 im hy w)
  have HF := Lib.hid (fun w => fixedPoints_any n h1 h2 im hy w)
  have hK := ksL_len im n (ci n).length
  have h64 := ci_len64 n (by omega)
  have HSG : Hid (sgL im n (ci n).length = flI im n (ksL im n (ci n).length) (ksL im n (ci n).length).length) := Lib.hid (by rw [flI, List.take_length]; rfl)
  have HR0 : Hid (regB im n = true) := Lib.hid hr
  clear h hy hr
  generalize ksL im n (ci n).length = ks at *
  have HF0 : Hid (flI im n ks 0 = []) := Lib.hid rfl
  have HFS := Lib.hid (take_map_succ (sgK im n) ks)
  have HFL : Hid (∀ i, (flI im n ks i).length ≤ ks.length) := Lib.hid (fun i => by rw [flI, List.length_map, List.length_take]; omega)
  go_enter Try.func42, Try.ntmps42
  go_wp2_with fail
  refine (HC.out).mono ?_
  rintro e w1 ⟨rfl, hb1⟩
  have hz1 := hb1.size
  go_wp2_with (first | (with_reducible refine alloc_blk zeroM run_alloc_map rfl rfl ?_) | ((with_reducible refine store_blk blkM rfl _ _ rfl w1.heap.size (mapA n im) zeroM ?_ ?_ (heap_alloc_new _ _) zeroM_size (mapA_size _ _) (mapA_one _ _) w1.heap.size (Nat.le_refl _) ?_); exact rfl; exact rfl; intro w2 hg2 hb2 hk2 hz2; have hB2 : Below w.heap.size w w2 := (balloc hb1 _).trans (hb2.mono hz1)) | ((with_reducible refine load_blk blkM ?_ _ rfl (w1.heap.size) ?_ (mapA n im) hg2 (mapA_size _ _) ?_); exact rfl; exact rfl; simp only [Act.put, List.setIfInBounds_toArray, List.set_cons_zero, List.set_cons_succ]))
  refine (HL.out _).mono ?_
  rintro e w3 ⟨rfl, hb3⟩
  rw [HR0.out]
  have hB3 := bnext hB2 hb3
  have hg3 := heap_later hg2 hb3
  clear hb3 hB2 hb2 hk2 hz2 hg2 hb1
  go_wp2_with (first | ((with_reducible refine load_blk blkM ?_ _ rfl (w1.heap.size) ?_ (mapA n im) hg3 (mapA_size _ _) ?_); exact rfl; exact rfl; simp only [Act.put, List.setIfInBounds_toArray, List.set_cons_zero, List.set_cons_succ]))
  refine (HF.out _).mono ?_
  rintro e w4 ⟨v, rfl, hfp, hb4⟩
  obtain ⟨fa, fcap, fb, rfl, hrd⟩ := fp_shape hfp
  have hB4 := bnext hB3 hb4
  have hz4 := hB4.size
  have HRD := Lib.hid hrd
  clear hfp hrd hb4 hB3 hg3
  go_wp2_with fail
  go_loopw [8, 27] (fun v8 v27 wr => ∃ i : Nat, i ≤ ks.length ∧ v27 = .int .i64 i ∧ wr.ownsRow w4.heap.size 3 1 v8 (flI im n ks i).length ((flI im n ks i).map (Value.int .i64)) ∧ Below w4.heap.size w4 wr) (fun _ v27 _ => ks.length - (intOf v27).toNat)
  case atStart => exact ⟨0, Nat.zero_le _, rfl, by rw [HF0.out]; exact World.ownsRow_nil _ _ _ _, Below.refl _ _⟩
  case round =>
    obtain ⟨i, hi, rfl, ho, hb⟩ := hrel
    obtain ⟨wq, rfl⟩ : ∃ wq : World, wq = wr := ⟨_, rfl⟩
    by_cases hlt : i < ks.length
    · obtain ⟨rfl, hfb, hc⟩ := HRD.out i hlt
      have HE : Hid (flI im n ks (i + 1) = flI im n ks i ++ [sgK im n (ks.getD i 0)]) := Lib.hid (HFS.out i hlt)
      have hlk := HFL.out i
      have hq : ∀ t, t < 5 → wq.cell? ⟨fb, i * 5 + t, none⟩ = some (.int .i64 ((fpr im n (ks.getD i 0)).getD t 0)) := fun t ht => (hb.cell (p := ⟨fb, i * 5 + t, none⟩) hfb).trans (hc t ht)
      have c0 : wq.cell? ⟨fb, i * 5, none⟩ = some (.int .i64 (ks.getD i 0 : Nat)) := hq 0 (by omega)
      have c1 : wq.cell? ⟨fb, i * 5 + 1, none⟩ = some (.int .i64 (wq' im n (ks.getD i 0) 0)) := hq 1 (by omega)
      have c2 : wq.cell? ⟨fb, i * 5 + 2, none⟩ = some (.int .i64 (wq' im n (ks.getD i 0) 1)) := hq 2 (by omega)
      have c3 : wq.cell? ⟨fb, i * 5 + 3, none⟩ = some (.int .i64 (wq' im n (ks.getD i 0) 2)) := hq 3 (by omega)
      have c4 : wq.cell? ⟨fb, i * 5 + 4, none⟩ = some (.int .i64 (sgK im n (ks.getD i 0))) := hq 4 (by omega)
      have hki : (i : Int) < (ks.length : Int) := by omega
      clear hq hc
      generalize ks.getD i 0 = k at *
      have hzq : w4.heap.size ≤ (wq.alloc (.cells (fp5 (k : Nat) (wq' im n k 0) (wq' im n k 1) (wq' im n k 2) (sgK im n k)) 81)).heap.size := by have := hb.size; simp only [World.size_alloc]; omega
      have hoq := own_now ho (balloc (Below.refl wq.heap.size wq) (.cells (fp5 (k : Nat) (wq' im n k 0) (wq' im n k 1) (wq' im n k 2) (sgK im n k)) 81))
      have hbq := balloc hb (.cells (fp5 (k : Nat) (wq' im n k 0) (wq' im n k 1) (wq' im n k 2) (sgK im n k)) 81)
      clear ho
      go_wp2_with (at_builtin; refine append_intg w4.heap.size _ (wq.alloc (.cells (fp5 (k : Nat) (wq' im n k 0) (wq' im n k 1) (wq' im n k 2) (sgK im n k)) 81)) _ (flI im n ks i) (sgK im n k) rfl _ _ rfl rfl rfl (by simp) hoq hzq (by omega) ?_; intro v' w6 ho6 hb6)
      go_roundw
      case rel => exact ⟨i + 1, by omega, by go_num, by rw [HE.out]; exact ho6, hbq.trans hb6⟩
      case measure => simp [intOf]; omega
    · have hk2 : i = ks.length := by omega
      rw [hk2] at ho
      clear hk2
      obtain ⟨-, ua, uc, ub, rfl, -, -⟩ := own_shape ho
      go_wp2_with fail
      go_returns
      exact ⟨_, rfl, by rw [HSG.out]; exact ⟨_, own_base ho hz4, own_lt ho⟩, bnext hB4 hb⟩
set_option maxHeartbeats 800000 in
theorem implSignsOfFixed_reg (n : Nat) (h1 : 1 ≤ n) (h2 : n ≤ 5) (im : List (List Int)) (hy : imB n im = true) (hr : regB im n = false) (a : Option Addr) (cap : Nat) (w : World) (h : RdSS w w.heap.size a im) :
    Calls Try.prog 42 #[.int .i64 n, .slice a im.length cap] w (OutSignsOfFixed w [] false) := by
  have HC := Lib.hid (mappedOf_yes n h1 h2 im hy a cap w h)
  have HL := Lib.hid (fun w => isRegular_any n h1 h2 im hy w)
  have HR0 : Hid (regB im n = false) := Lib.hid hr
  clear h hy hr
  go_enter Try.func42, Try.ntmps42
  go_wp2_with fail
  refine (HC.out).mono ?_
  rintro e w1 ⟨rfl, hb1⟩
  have hz1 := hb1.size
  go_wp2_with (first | (with_reducible refine alloc_blk zeroM run_alloc_map rfl rfl ?_) | ((with_reducible refine store_blk blkM rfl _ _ rfl w1.heap.size (mapA n im) zeroM ?_ ?_ (heap_alloc_new _ _) zeroM_size (mapA_size _ _) (mapA_one _ _) w1.heap.size (Nat.le_refl _) ?_); exact rfl; exact rfl; intro w2 hg2 hb2 hk2 hz2; have hB2 : Below w.heap.size w w2 := (balloc hb1 _).trans (hb2.mono hz1)) | ((with_reducible refine load_blk blkM ?_ _ rfl (w1.heap.size) ?_ (mapA n im) hg2 (mapA_size _ _) ?_); exact rfl; exact rfl; simp only [Act.put, List.setIfInBounds_toArray, List.set_cons_zero, List.set_cons_succ]))
  refine (HL.out _).mono ?_
  rintro e w3 ⟨rfl, hb3⟩
  rw [HR0.out]
  have hB3 := bnext hB2 hb3
  go_wp2_with fail
  go_returns
  exact ⟨_, rfl, oi_nil _ _ _, hB3⟩
set_option maxHeartbeats 400000 in
theorem implSignsOfFixed_no (n : Int) (im : List (List Int)) (hy : imgB n im = false) (a : Option Addr) (cap : Nat) (w : World) (h : RdSS w w.heap.size a im) :
    Calls Try.prog 42 #[.int .i64 n, .slice a im.length cap] w (OutSignsOfFixed w [] false) := by
  have HC := Lib.hid (mappedOf_fail n im hy a cap w h)
  clear h hy
  go_enter Try.func42, Try.ntmps42
  go_wp2_with fail
  refine (HC.out).mono ?_
  rintro e w1 ⟨rfl, hb1⟩
  have hz1 := hb1.size
  go_wp2_with (first | (with_reducible refine alloc_blk zeroM run_alloc_map rfl rfl ?_) | ((with_reducible refine store_blk blkM rfl _ _ rfl w1.heap.size (zeroM) zeroM ?_ ?_ (heap_alloc_new _ _) zeroM_size (zeroM_size) (zeroM_one) w1.heap.size (Nat.le_refl _) ?_); exact rfl; exact rfl; intro w2 hg2 hb2 hk2 hz2; have hB2 : Below w.heap.size w w2 := (balloc hb1 _).trans (hb2.mono hz1)))
  go_returns
  exact ⟨_, rfl, oi_nil _ _ _, hB2⟩
theorem law_SignsOfFixed (w : World) (n : Int) (_ : (Lit.int .i64 n).wf = true) (im : List (List Int)) (a_im : Option Addr) (c_im : Nat) (h_im : RdSS w w.heap.size a_im im) :
    Calls Try.prog 12 #[.int .i64 n, .slice a_im im.length c_im] w fun e w' => e = .returned (.bool true) ∧ Below w.heap.size w w' := by
  cases h : imgB n im
  · exact lawOf_SignsOfFixed n im a_im c_im w h_im _ _ (by simp) (fun a c w' _ h' => specSignsOfFixed_no n im h a c _ w' h') (fun a c w' _ h' => implSignsOfFixed_no n im h a c w' h')
  · obtain ⟨n, rfl, h1, h2, hy⟩ := imgB_yes h
    cases hr : regB im n
    · exact lawOf_SignsOfFixed n im a_im c_im w h_im _ _ (by simp) (fun a c w' _ h' => specSignsOfFixed_reg n h1 h2 im hy hr a c w' h') (fun a c w' _ h' => implSignsOfFixed_reg n h1 h2 im hy hr a c w' h')
    · exact lawOf_SignsOfFixed n im a_im c_im w h_im _ _ (by have := sgL_len im n (ci n).length; have := ci_len64 n (by omega); omega) (fun a c w' _ h => specSignsOfFixed_yes n h1 h2 im hy hr a c w' h) (fun a c w' _ h => implSignsOfFixed_yes n h1 h2 im hy hr a c w' h)
end Go.Proofs.Ytelchpdlfedleaa
