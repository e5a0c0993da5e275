import Derived.Test.YtfpadepeanejeaaMc1
namespace Go.Proofs.Ytfpadepeanejeaa
open Go.RowKit
set_option maxRecDepth 4000
def OutCakeLabels (w : World) (r0 : List Int) (r1 : Bool) (e : Ending) (w' : World) : Prop := ∃ v0, e = .returned (.tuple #[v0, .bool r1]) ∧ OI w' w.heap.size w'.heap.size v0 r0 ∧ Below w.heap.size w w'
set_option maxHeartbeats 3200000 in
theorem lawOf_CakeLabels (n : Int) (ts : List (List Int)) (a_ts : Option Addr) (c_ts : Nat) (w : World) (h_ts : RdSS w w.heap.size a_ts ts) (r0 : List Int) (r1 : Bool) (hL0 : r0.length ≤ 100000)
    (hs : ∀ (a_ts' : Option Addr) (c_ts' : Nat) (w' : World), SmallSS ts → RdSS w' w'.heap.size a_ts' ts → Calls Try.prog 26 #[.int .i64 n, .slice a_ts' ts.length c_ts'] w' (OutCakeLabels w' r0 r1))
    (hi : ∀ (a_ts' : Option Addr) (c_ts' : Nat) (w' : World), SmallSS ts → RdSS w' w'.heap.size a_ts' ts → Calls Try.prog 27 #[.int .i64 n, .slice a_ts' ts.length c_ts'] w' (OutCakeLabels w' r0 r1)) :
    Calls Try.prog 7 #[.int .i64 n, .slice a_ts ts.length c_ts] w fun e w' => e = .returned (.bool true) ∧ Below w.heap.size w w' := by
  have HS := Lib.hid hs
  have HI := Lib.hid hi
  clear hs hi
  have hne1 : (r1 != r1) = false := by simp
  have hB0 : Below w.heap.size w w := Below.refl _ _
  go_enter Try.func7, Try.ntmps7
  go_wp2_with fail
  refine (szIntSS_any ts a_ts c_ts _ _ (by omega) (by omega) w h_ts).mono ?_
  rintro e w' ⟨l1, rfl, rfl, hl⟩
  rcases hl with hl | ⟨hl0_0, hl1_0, hsz_ts⟩
  · go_wp2_with fail
    go_ret
    exact ⟨rfl, Below.refl _ _⟩
  go_wp2_with fail
  refine (toIntSS_any ts a_ts c_ts _ _ h_ts (by omega) hsz_ts).mono ?_
  rintro e w1 ⟨v_tsp, rfl, o_tsp, hb⟩
  have hc := chg_below hb
  clear hb
  have z1 := hc.size
  replace h_ts := rdss_chg h_ts hc (by omega) (by omega)
  replace hB0 := below_chg hB0 hc (by omega) (by omega)
  clear hc
  obtain ⟨a_tsp, c_tsp, rfl, rd_tsp⟩ := oss_shape o_tsp
  go_wp2_with fail
  refine (HS.out a_tsp c_tsp _ hsz_ts (rdss_mono rd_tsp (by omega))).mono ?_
  rintro e w2 ⟨vs0, rfl, os0, hb⟩
  have hc := chg_below hb
  clear hb
  clear rd_tsp
  have z2 := hc.size
  replace h_ts := rdss_chg h_ts hc (by omega) (by omega)
  replace o_tsp := oss_keep o_tsp hc (by omega) (by omega)
  replace hB0 := below_chg hB0 hc (by omega) (by omega)
  clear hc
  obtain ⟨as0, cs0, -, rfl, -⟩ := oi_shape os0
  go_wp2_with fail
  clear o_tsp
  refine (toIntSS_any ts a_ts c_ts _ _ h_ts (by omega) hsz_ts).mono ?_
  rintro e w3 ⟨v_tsx, rfl, o_tsx, hb⟩
  have hc := chg_below hb
  clear hb
  have z3 := hc.size
  replace h_ts := rdss_chg h_ts hc (by omega) (by omega)
  replace os0 := oi_keep os0 hc (by omega) (by omega)
  replace hB0 := below_chg hB0 hc (by omega) (by omega)
  clear hc
  obtain ⟨a_tsx, c_tsx, rfl, rd_tsx⟩ := oss_shape o_tsx
  go_wp2_with fail
  refine (HI.out a_tsx c_tsx _ hsz_ts (rdss_mono rd_tsx (by omega))).mono ?_
  rintro e w4 ⟨vg0, rfl, og0, hb⟩
  have hc := chg_below hb
  clear hb
  clear rd_tsx
  have z4 := hc.size
  replace h_ts := rdss_chg h_ts hc (by omega) (by omega)
  replace os0 := oi_keep os0 hc (by omega) (by omega)
  replace o_tsx := oss_keep o_tsx hc (by omega) (by omega)
  replace hB0 := below_chg hB0 hc (by omega) (by omega)
  clear hc
  obtain ⟨ag0, cg0, -, rfl, -⟩ := oi_shape og0
  go_wp2_with fail
  refine (eqIntS_rd r0 ag0 as0 _ _ cg0 cs0 _ (oi_rds og0) (oi_rds os0)).mono ?_
  rintro e w5 ⟨rfl, hs⟩
  have hc := chg_same hs
  clear hs
  have z5 := hc.size
  replace h_ts := rdss_chg h_ts hc (by omega) (by omega)
  replace os0 := oi_keep os0 hc (by omega) (by omega)
  replace o_tsx := oss_keep o_tsx hc (by omega) (by omega)
  replace og0 := oi_keep og0 hc (by omega) (by omega)
  replace hB0 := below_chg hB0 hc (by omega) (by omega)
  clear hc
  go_wp2_with fail
  refine (toIntSS_any ts a_ts c_ts _ _ h_ts (by omega) hsz_ts).mono ?_
  rintro e w6 ⟨v_tsy, rfl, o_tsy, hb⟩
  have hc := chg_below hb
  clear hb
  have z6 := hc.size
  replace h_ts := rdss_chg h_ts hc (by omega) (by omega)
  replace os0 := oi_keep os0 hc (by omega) (by omega)
  replace o_tsx := oss_keep o_tsx hc (by omega) (by omega)
  replace og0 := oi_keep og0 hc (by omega) (by omega)
  replace hB0 := below_chg hB0 hc (by omega) (by omega)
  clear hc
  obtain ⟨a_tsy, c_tsy, rfl, -⟩ := oss_shape o_tsy
  go_wp2_with fail
  refine (eqIntSS_rd ts a_tsx a_tsy _ _ c_tsx c_tsy _ (oss_rds o_tsx) (oss_rds o_tsy)).mono ?_
  rintro e w7 ⟨rfl, hs⟩
  have hc := chg_same hs
  clear hs
  have z7 := hc.size
  replace h_ts := rdss_chg h_ts hc (by omega) (by omega)
  replace os0 := oi_keep os0 hc (by omega) (by omega)
  replace o_tsx := oss_keep o_tsx hc (by omega) (by omega)
  replace og0 := oi_keep og0 hc (by omega) (by omega)
  replace o_tsy := oss_keep o_tsy hc (by omega) (by omega)
  replace hB0 := below_chg hB0 hc (by omega) (by omega)
  clear hc
  go_wp2_with fail
  clear o_tsy
  obtain ⟨lx0, hlx0, hsx0, hnx0⟩ := small_lens hsz_ts
  refine (markIntSS_chg lx0 ts hlx0 hsx0 hnx0 a_tsx _ _ c_tsx _ (by omega) (by omega) _ o_tsx).mono ?_
  rintro e w8 ⟨rfl, -, hc⟩
  have htx0 : offs lx0 lx0.length ≤ 1099511627776 := Nat.le_trans (offs_big lx0 hsx0 lx0.length) (by omega)
  clear hlx0 hsx0
  generalize offs lx0 lx0.length = tx0 at htx0 ⊢
  clear o_tsx
  have z8 := hc.size
  replace h_ts := rdss_chg h_ts hc (by omega) (by omega)
  replace os0 := oi_keep os0 hc (by omega) (by omega)
  replace og0 := oi_keep og0 hc (by omega) (by omega)
  replace hB0 := below_chg hB0 hc (by omega) (by omega)
  clear hc
  go_wp2_with fail
  refine (eqIntS_rd r0 ag0 as0 _ _ cg0 cs0 _ (oi_rds og0) (oi_rds os0)).mono ?_
  rintro e w9 ⟨rfl, hs⟩
  have hc := chg_same hs
  clear hs
  have z9 := hc.size
  replace h_ts := rdss_chg h_ts hc (by omega) (by omega)
  replace os0 := oi_keep os0 hc (by omega) (by omega)
  replace og0 := oi_keep og0 hc (by omega) (by omega)
  replace hB0 := below_chg hB0 hc (by omega) (by omega)
  clear hc
  go_wp2_with fail
  refine (markIntS_chg r0 ag0 _ _ cg0 1 _ og0 (by omega) (by omega)).mono ?_
  rintro e w10 ⟨rfl, om0, hc⟩
  have hlm0 : (mkd 1 r0.length r0).length = r0.length := mkd_len _ _ _ (Nat.le_refl _)
  have HLM0 := Lib.hid hlm0
  clear hlm0
  clear og0
  have z10 := hc.size
  replace h_ts := rdss_chg h_ts hc (by omega) (by omega)
  replace os0 := oi_keep os0 hc (by omega) (by omega)
  replace hB0 := below_chg hB0 hc (by omega) (by omega)
  clear hc
  go_wp2_with fail
  refine (heldIntS_rd r0 1 ag0 _ _ cg0 _ HLM0.out (oi_rds2 om0) (by omega) (by omega)).mono ?_
  rintro e w' ⟨rfl, rfl⟩
  go_wp2_with fail
  refine (toIntSS_any ts a_ts c_ts _ _ h_ts (by omega) hsz_ts).mono ?_
  rintro e w11 ⟨v_tsz, rfl, o_tsz, hb⟩
  have hc := chg_below hb
  clear hb
  have z11 := hc.size
  replace h_ts := rdss_chg h_ts hc (by omega) (by omega)
  replace os0 := oi_keep os0 hc (by omega) (by omega)
  replace om0 := oi_keep om0 hc (by omega) (by omega)
  replace hB0 := below_chg hB0 hc (by omega) (by omega)
  clear hc
  obtain ⟨a_tsz, c_tsz, rfl, rd_tsz⟩ := oss_shape o_tsz
  go_wp2_with fail
  refine (HI.out a_tsz c_tsz _ hsz_ts (rdss_mono rd_tsz (by omega))).mono ?_
  rintro e w12 ⟨vh0, rfl, oh0, hb⟩
  have hc := chg_below hb
  clear hb
  clear rd_tsz
  have z12 := hc.size
  replace h_ts := rdss_chg h_ts hc (by omega) (by omega)
  replace os0 := oi_keep os0 hc (by omega) (by omega)
  replace om0 := oi_keep om0 hc (by omega) (by omega)
  replace o_tsz := oss_keep o_tsz hc (by omega) (by omega)
  replace hB0 := below_chg hB0 hc (by omega) (by omega)
  clear hc
  obtain ⟨ah0, ch0, -, rfl, -⟩ := oi_shape oh0
  go_wp2_with fail
  clear o_tsz
  refine (eqIntS_rd r0 ah0 as0 _ _ ch0 cs0 _ (oi_rds oh0) (oi_rds os0)).mono ?_
  rintro e w13 ⟨rfl, hs⟩
  have hc := chg_same hs
  clear hs
  have z13 := hc.size
  replace h_ts := rdss_chg h_ts hc (by omega) (by omega)
  replace os0 := oi_keep os0 hc (by omega) (by omega)
  replace om0 := oi_keep om0 hc (by omega) (by omega)
  replace oh0 := oi_keep oh0 hc (by omega) (by omega)
  replace hB0 := below_chg hB0 hc (by omega) (by omega)
  clear hc
  go_wp2_with fail
  refine (heldIntS_rd r0 1 ag0 _ _ cg0 _ HLM0.out (oi_rds2 om0) (by omega) (by omega)).mono ?_
  rintro e w' ⟨rfl, rfl⟩
  go_wp2_with fail
  go_ret
  exact ⟨rfl, hB0⟩
set_option maxHeartbeats 800000 in
theorem specCakeLabels_yes (n : Nat) (h1 : 1 ≤ n) (h2 : n ≤ 8) (ts : List (List Int)) (hy : rowsB n 9 ts = true) (a : Option Addr) (cap : Nat) (w : World) (h : RdSS w w.heap.size a ts) :
    Calls Try.prog 26 #[.int .i64 n, .slice a ts.length cap] w (OutCakeLabels w (cl ts n) true) := by
  have HT := Lib.hid (ckTastes_yes n h1 h2 ts hy a cap _ w h)
  have HK := Lib.hid (ckLabels_any n h1 h2 ts hy a cap w h)
  clear h hy
  go_enter Try.func26, Try.ntmps26
  go_wp2_with fail
  refine HT.out.mono ?_
  rintro e w' ⟨rfl, rfl⟩
  go_wp2_with fail
  refine HK.out.mono ?_
  rintro e w2 ⟨v, rfl, ho, hb⟩
  obtain ⟨a2, c2, b2, rfl, -, -⟩ := oi_shape ho
  go_wp2_with fail
  go_returns
  exact ⟨_, rfl, ho, hb⟩
set_option maxHeartbeats 800000 in
theorem specCakeLabels_no (n : Int) (ts : List (List Int)) (hy : tstB n ts = false) (a : Option Addr) (cap B : Nat) (w : World) (h : RdSS w B a ts) :
    Calls Try.prog 26 #[.int .i64 n, .slice a ts.length cap] w (OutCakeLabels w [] false) := by
  have HT := Lib.hid (ckTastes_no n ts hy a cap _ w h)
  clear h hy
  go_enter Try.func26, Try.ntmps26
  go_wp2_with fail
  refine HT.out.mono ?_
  rintro e w' ⟨rfl, rfl⟩
  go_wp2_with fail
  go_returns
  exact ⟨_, rfl, oi_nil _ _ _, Below.refl _ _⟩
set_option maxHeartbeats 1600000 in
theorem implCakeLabels_yes (n : Nat) (h1 : 1 ≤ n) (h2 : n ≤ 8) (ts : List (List Int)) (hy : rowsB n 9 ts = true) (a : Option Addr) (cap : Nat) (w : World) (h : RdSS w w.heap.size a ts) :
    Calls Try.prog 27 #[.int .i64 n, .slice a ts.length cap] w (OutCakeLabels w (cl ts n) true) := by
  have HC := Lib.hid (cakeOf_yes n h1 h2 ts a cap w h hy)
  have HL := Lib.hid (fun w => labels_any n h1 h2 ts hy w)
  clear h hy
  go_enter Try.func27, Try.ntmps27
  go_wp2_with fail
  refine (HC.out).mono ?_
  rintro e w1 ⟨rfl, hb1⟩
  have hz1 := hb1.size
  go_wp2_with (first | (with_reducible refine alloc_blk zeroC run_alloc_cake rfl rfl ?_) | ((with_reducible refine store_blk blkCake rfl _ _ rfl w1.heap.size (cakeA n ts) zeroC ?_ ?_ (heap_alloc_new _ _) zeroC_size (cakeA_size _ _) (cakeA_one _ _) w1.heap.size (Nat.le_refl _) ?_); exact rfl; exact rfl; intro w2 hg2 hb2 hk2 hz2; have hB2 : Below w.heap.size w w2 := (balloc hb1 _).trans (hb2.mono hz1)) | ((with_reducible refine load_blk blkCake ?_ _ rfl (w1.heap.size) ?_ (cakeA n ts) hg2 (cakeA_size _ _) ?_); exact rfl; exact rfl; simp only [Act.put, List.setIfInBounds_toArray, List.set_cons_zero, List.set_cons_succ]))
  refine (HL.out _).mono ?_
  rintro e w3 ⟨v, rfl, ho, hb3⟩
  obtain ⟨a2, c2, b2, rfl, -, -⟩ := oi_shape ho
  have hB3 := bnext hB2 hb3
  have hzz := hB2.size
  go_wp2_with fail
  go_returns
  obtain ⟨et, ho1, ho2⟩ := ho
  exact ⟨_, rfl, ⟨et, own_base ho1 hzz, ho2⟩, hB3⟩
set_option maxHeartbeats 1600000 in
theorem implCakeLabels_no (n : Int) (ts : List (List Int)) (hy : tstB n ts = false) (a : Option Addr) (cap : Nat) (w : World) (h : RdSS w w.heap.size a ts) :
    Calls Try.prog 27 #[.int .i64 n, .slice a ts.length cap] w (OutCakeLabels w [] false) := by
  have HC := Lib.hid (cakeOf_fail n ts hy a cap w h)
  clear h hy
  go_enter Try.func27, Try.ntmps27
  go_wp2_with fail
  refine (HC.out).mono ?_
  rintro e w1 ⟨rfl, hb1⟩
  have hz1 := hb1.size
  go_wp2_with (first | (with_reducible refine alloc_blk zeroC run_alloc_cake rfl rfl ?_) | ((with_reducible refine store_blk blkCake rfl _ _ rfl w1.heap.size (zeroC) zeroC ?_ ?_ (heap_alloc_new _ _) zeroC_size (zeroC_size) (zeroC_one) w1.heap.size (Nat.le_refl _) ?_); exact rfl; exact rfl; intro w2 hg2 hb2 hk2 hz2; have hB2 : Below w.heap.size w w2 := (balloc hb1 _).trans (hb2.mono hz1)))
  go_returns
  exact ⟨_, rfl, oi_nil _ _ _, hB2⟩
theorem law_CakeLabels (w : World) (n : Int) (_ : (Lit.int .i64 n).wf = true) (ts : List (List Int)) (a_ts : Option Addr) (c_ts : Nat) (h_ts : RdSS w w.heap.size a_ts ts) :
    Calls Try.prog 7 #[.int .i64 n, .slice a_ts ts.length c_ts] w fun e w' => e = .returned (.bool true) ∧ Below w.heap.size w w' := by
  cases h : tstB n ts
  · exact lawOf_CakeLabels n ts a_ts c_ts w h_ts _ _ (by simp) (fun a c w' _ h' => specCakeLabels_no n ts h a c _ w' h') (fun a c w' _ h' => implCakeLabels_no n ts h a c w' h')
  · obtain ⟨n, rfl, h1, h2, hy⟩ := tstB_yes h
    exact lawOf_CakeLabels n ts a_ts c_ts w h_ts _ _ (by rw [cl_len]; have := (Pr.cnt_le n (by omega)).1; omega) (fun a c w' _ h => specCakeLabels_yes n h1 h2 ts hy a c w' h) (fun a c w' _ h => implCakeLabels_yes n h1 h2 ts hy a c w' h)
end Go.Proofs.Ytfpadepeanejeaa
