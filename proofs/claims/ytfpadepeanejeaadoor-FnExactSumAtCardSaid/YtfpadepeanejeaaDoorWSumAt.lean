import Derived.RegionTactic
import Derived.Test.YtfpadepeanejeaaDoorMd7
namespace Go.Proofs.YtfpadepeanejeaaDoor
open Go.RowKit
set_option maxRecDepth 4000
def OutSumAt (w : World) (r0 : Int) (r1 : Bool) (e : Ending) (w' : World) : Prop := e = .returned (.tuple #[.int .i64 r0, .bool r1]) ∧ Below w.heap.size w w'
set_option maxHeartbeats 3200000 in
theorem lawOf_SumAt (n : Int) (ts : List (List Int)) (a_ts : Option Addr) (c_ts : Nat) (i : Int) (sh : List Int) (a_sh : Option Addr) (c_sh : Nat) (w : World) (h_ts : RdSS w w.heap.size a_ts ts) (h_sh : RdS w w.heap.size a_sh sh) (hvar : ShV w) (r0 : Int) (r1 : Bool)
    (hs : ∀ (a_ts' : Option Addr) (c_ts' : Nat) (a_sh' : Option Addr) (c_sh' : Nat) (w' : World), SmallSS ts → sh.length ≤ 1048576 → RdSS w' w'.heap.size a_ts' ts → RdS w' w'.heap.size a_sh' sh → Calls Tryd.prog 14 #[.int .i64 n, .slice a_ts' ts.length c_ts', .int .i64 i, .slice a_sh' sh.length c_sh'] w' (OutSumAt w' r0 r1))
    (hi : ∀ (a_ts' : Option Addr) (c_ts' : Nat) (a_sh' : Option Addr) (c_sh' : Nat) (w' : World), SmallSS ts → sh.length ≤ 1048576 → ShV w' → RdSS w' w'.heap.size a_ts' ts → RdS w' w'.heap.size a_sh' sh → Calls Tryd.prog 15 #[.int .i64 n, .slice a_ts' ts.length c_ts', .int .i64 i, .slice a_sh' sh.length c_sh'] w' (OutSumAt w' r0 r1)) :
    Calls Tryd.prog 4 #[.int .i64 n, .slice a_ts ts.length c_ts, .int .i64 i, .slice a_sh sh.length c_sh] w fun e w' => e = .returned (.bool true) ∧ Below w.heap.size w w' := by
  have HS := Lib.hid hs
  have HI := Lib.hid hi
  clear hs hi
  have HV := Lib.hid hvar
  clear hvar
  have hne0 : (r0 != r0) = false := by simp
  have hne1 : (r1 != r1) = false := by simp
  have hB0 : Below w.heap.size w w := Below.refl _ _
  by_cases hbig_sh : (1048576 : Int) < (sh.length : Int)
  · go_enter Tryd.func4, Tryd.ntmps4
    go_wp2_with fail
    go_ret
    exact ⟨rfl, Below.refl _ _⟩
  have hsz_sh : sh.length ≤ 1048576 := by omega
  go_enter Tryd.func4, Tryd.ntmps4
  go_wp2_with fail
  refine (szIntSS_any ts a_ts c_ts _ 1048576 (by omega) (by omega) w h_ts).mono ?_
  rintro e w' ⟨l1, rfl, rfl, hl⟩
  rcases hl with hl | ⟨hl0_0, hl1_0, hsz_ts⟩
  · go_wp2_with fail
    go_ret
    exact ⟨rfl, Below.refl _ _⟩
  go_wp2_with fail
  refine (toIntSS_any ts a_ts c_ts _ _ h_ts (by omega) hsz_ts).mono ?_
  rintro e w1 ⟨v_tsp, rfl, o_tsp, hb⟩
  have hc := chg_below hb
  clear hb
  have z1 := hc.size
  replace h_ts := rdss_chg h_ts hc (by omega) (by omega)
  replace h_sh := rds_chg h_sh hc (by omega) (by omega)
  replace hB0 := below_chg hB0 hc (by omega) (by omega)
  clear hc
  obtain ⟨a_tsp, c_tsp, rfl, rd_tsp⟩ := oss_shape o_tsp
  go_wp2_with fail
  refine (toIntS_rd sh a_sh c_sh _ _ h_sh (by omega) hsz_sh).mono ?_
  rintro e w2 ⟨v_shp, rfl, o_shp, hb⟩
  have hc := chg_below hb
  clear hb
  have z2 := hc.size
  replace h_ts := rdss_chg h_ts hc (by omega) (by omega)
  replace h_sh := rds_chg h_sh hc (by omega) (by omega)
  replace o_tsp := oss_keep o_tsp hc (by omega) (by omega)
  replace rd_tsp := rdss_chg rd_tsp hc (by omega) (by omega)
  replace hB0 := below_chg hB0 hc (by omega) (by omega)
  clear hc
  obtain ⟨a_shp, c_shp, _, rfl, -, rd_shp⟩ := oi_shape o_shp
  go_wp2_with fail
  refine (HS.out a_tsp c_tsp a_shp c_shp _ hsz_ts hsz_sh (rdss_mono rd_tsp (by omega)) (rds_mono rd_shp (by omega))).mono ?_
  rintro e w3 ⟨rfl, hb⟩
  have hc := chg_below hb
  clear hb
  clear rd_tsp
  clear rd_shp
  have z3 := hc.size
  replace h_ts := rdss_chg h_ts hc (by omega) (by omega)
  replace h_sh := rds_chg h_sh hc (by omega) (by omega)
  replace o_tsp := oss_keep o_tsp hc (by omega) (by omega)
  replace o_shp := oi_keep o_shp hc (by omega) (by omega)
  replace hB0 := below_chg hB0 hc (by omega) (by omega)
  clear hc
  go_wp2_with fail
  clear o_tsp
  clear o_shp
  refine (toIntSS_any ts a_ts c_ts _ _ h_ts (by omega) hsz_ts).mono ?_
  rintro e w4 ⟨v_tsx, rfl, o_tsx, hb⟩
  have hc := chg_below hb
  clear hb
  have z4 := hc.size
  replace h_ts := rdss_chg h_ts hc (by omega) (by omega)
  replace h_sh := rds_chg h_sh hc (by omega) (by omega)
  replace hB0 := below_chg hB0 hc (by omega) (by omega)
  clear hc
  obtain ⟨a_tsx, c_tsx, rfl, rd_tsx⟩ := oss_shape o_tsx
  go_wp2_with fail
  refine (toIntS_rd sh a_sh c_sh _ _ h_sh (by omega) hsz_sh).mono ?_
  rintro e w5 ⟨v_shx, rfl, o_shx, hb⟩
  have hc := chg_below hb
  clear hb
  have z5 := hc.size
  replace h_ts := rdss_chg h_ts hc (by omega) (by omega)
  replace h_sh := rds_chg h_sh hc (by omega) (by omega)
  replace o_tsx := oss_keep o_tsx hc (by omega) (by omega)
  replace rd_tsx := rdss_chg rd_tsx hc (by omega) (by omega)
  replace hB0 := below_chg hB0 hc (by omega) (by omega)
  clear hc
  obtain ⟨a_shx, c_shx, _, rfl, -, rd_shx⟩ := oi_shape o_shx
  go_wp2_with fail
  refine (HI.out a_tsx c_tsx a_shx c_shx _ hsz_ts hsz_sh (ShV_later HV.out hB0) (rdss_mono rd_tsx (by omega)) (rds_mono rd_shx (by omega))).mono ?_
  rintro e w6 ⟨rfl, hb⟩
  have hc := chg_below hb
  clear hb
  clear rd_tsx
  clear rd_shx
  have z6 := hc.size
  replace h_ts := rdss_chg h_ts hc (by omega) (by omega)
  replace h_sh := rds_chg h_sh hc (by omega) (by omega)
  replace o_tsx := oss_keep o_tsx hc (by omega) (by omega)
  replace o_shx := oi_keep o_shx hc (by omega) (by omega)
  replace hB0 := below_chg hB0 hc (by omega) (by omega)
  clear hc
  go_wp2_with fail
  refine (toIntSS_any ts a_ts c_ts _ _ h_ts (by omega) hsz_ts).mono ?_
  rintro e w7 ⟨v_tsy, rfl, o_tsy, hb⟩
  have hc := chg_below hb
  clear hb
  have z7 := hc.size
  replace h_ts := rdss_chg h_ts hc (by omega) (by omega)
  replace h_sh := rds_chg h_sh hc (by omega) (by omega)
  replace o_tsx := oss_keep o_tsx hc (by omega) (by omega)
  replace o_shx := oi_keep o_shx hc (by omega) (by omega)
  replace hB0 := below_chg hB0 hc (by omega) (by omega)
  clear hc
  obtain ⟨a_tsy, c_tsy, rfl, -⟩ := oss_shape o_tsy
  go_wp2_with fail
  refine (eqIntSS_rd ts a_tsx a_tsy _ _ c_tsx c_tsy _ (oss_rds o_tsx) (oss_rds o_tsy)).mono ?_
  rintro e w8 ⟨rfl, hs⟩
  have hc := chg_same hs
  clear hs
  have z8 := hc.size
  replace h_ts := rdss_chg h_ts hc (by omega) (by omega)
  replace h_sh := rds_chg h_sh hc (by omega) (by omega)
  replace o_tsx := oss_keep o_tsx hc (by omega) (by omega)
  replace o_shx := oi_keep o_shx hc (by omega) (by omega)
  replace o_tsy := oss_keep o_tsy hc (by omega) (by omega)
  replace hB0 := below_chg hB0 hc (by omega) (by omega)
  clear hc
  go_wp2_with fail
  clear o_tsy
  refine (toIntS_rd sh a_sh c_sh _ _ h_sh (by omega) hsz_sh).mono ?_
  rintro e w9 ⟨v_shy, rfl, o_shy, hb⟩
  have hc := chg_below hb
  clear hb
  have z9 := hc.size
  replace h_ts := rdss_chg h_ts hc (by omega) (by omega)
  replace h_sh := rds_chg h_sh hc (by omega) (by omega)
  replace o_tsx := oss_keep o_tsx hc (by omega) (by omega)
  replace o_shx := oi_keep o_shx hc (by omega) (by omega)
  replace hB0 := below_chg hB0 hc (by omega) (by omega)
  clear hc
  obtain ⟨a_shy, c_shy, -, rfl, -⟩ := oi_shape o_shy
  go_wp2_with fail
  refine (eqIntS_rd sh a_shx a_shy _ _ c_shx c_shy _ (oi_rds o_shx) (oi_rds o_shy)).mono ?_
  rintro e w10 ⟨rfl, hs⟩
  have hc := chg_same hs
  clear hs
  have z10 := hc.size
  replace h_ts := rdss_chg h_ts hc (by omega) (by omega)
  replace h_sh := rds_chg h_sh hc (by omega) (by omega)
  replace o_tsx := oss_keep o_tsx hc (by omega) (by omega)
  replace o_shx := oi_keep o_shx hc (by omega) (by omega)
  replace o_shy := oi_keep o_shy hc (by omega) (by omega)
  replace hB0 := below_chg hB0 hc (by omega) (by omega)
  clear hc
  go_wp2_with fail
  clear o_shy
  go_ret
  exact ⟨rfl, hB0⟩
set_option maxHeartbeats 1600000 in
theorem specSumAt_yes (n i : Nat) (h1 : 1 ≤ n) (h2 : n ≤ 8) (hi : i < Pr.cnt n) (ts : List (List Int)) (hy : rowsB n 9 ts = true) (k : Nat) (hk : k < 6) (a : Option Addr) (cap : Nat) (a' : Option Addr) (cap' : Nat) (w : World) (h : RdSS w w.heap.size a ts) (h' : RdS w w.heap.size a' (shL k)) :
    Calls Tryd.prog 14 #[.int .i64 n, .slice a ts.length cap, .int .i64 i, .slice a' 3 cap'] w (OutSumAt w (smv (wpt ts n i) (shS k) 3) true) := by
  have HT := Lib.hid (ckTastes_yes' n h1 h2 ts hy a cap _ w h)
  have HS := Lib.hid (ckShares_any (shL k) a' cap' _ w h')
  have hsb : shB (shL k) = true := by
    simp only [shB, List.any_eq_true, List.mem_range, decide_eq_true_eq]; exact ⟨k, hk, rfl⟩
  rw [hsb] at HS
  have HW := Lib.hid (fun w h => ckWorths_any n i h1 h2 hi ts hy a cap w h)
  have HR := Lib.hid (wps_rows ts n i h2 hi hy)
  have HRD := Lib.hid h
  have HRS := Lib.hid h'
  skip
  clear h h' hy hsb
  go_enter Tryd.func14, Tryd.ntmps14
  go_wp2_with fail
  refine HT.out.mono ?_
  rintro e w' ⟨rfl, rfl⟩
  go_wp2_with fail
  refine (mePoint_yes n i h1 h2 hi _).mono ?_
  rintro e w' ⟨rfl, rfl⟩
  go_wp2_with fail
  refine HS.out.mono ?_
  rintro e w1 ⟨rfl, hs1⟩
  have hb1 : Below w.heap.size w w1 := hs1 _
  go_wp2_with fail
  refine (HW.out w1 (rdss_mono (rdss_later HRD.out hb1) hb1.size)).mono ?_
  rintro e w2 ⟨v, rfl, hc, hb2⟩
  have hB2 := bnext hb1 hb2
  obtain ⟨a2, c2, rfl, hrd2⟩ := oss_shape (oss_new hc)
  go_wp2_with fail
  refine (ckSum_any (wps ts n i) _ HR.out k hk  a2 a' c2 cap' _ _ w2 hrd2 (rds_later HRS.out hB2)).mono ?_
  rintro e w' ⟨rfl, rfl⟩
  go_wp2_with fail
  go_returns
  exact ⟨rfl, hB2⟩
set_option maxHeartbeats 800000 in
theorem specSumAt_no (n i : Int) (ts : List (List Int)) (sh : List Int) (hno : ¬ (okC n ts i ∧ shB sh = true)) (a : Option Addr) (cap : Nat) (a' : Option Addr) (cap' B : Nat) (w : World) (h : RdSS w B a ts) (h' : RdS w B a' sh) :
    Calls Tryd.prog 14 #[.int .i64 n, .slice a ts.length cap, .int .i64 i, .slice a' sh.length cap'] w (OutSumAt w 0 false) := by
  have HT := Lib.hid (ckTastes_any n ts a cap B w h)
  have HS := Lib.hid (ckShares_any sh a' cap' B w h')
  have HNO := Lib.hid hno
  clear h h' hno
  go_enter Tryd.func14, Tryd.ntmps14
  go_wp2_with fail
  refine HT.out.mono ?_
  rintro e w' ⟨rfl, rfl⟩
  cases hT : tstB n ts
  · clear hT
    go_wp2_with fail
    go_returns
    exact ⟨rfl, Below.refl _ _⟩
  · have HTT := Lib.hid hT
    clear hT
    go_wp2_with fail
    by_cases hp : Pr.okPt n i
    · obtain ⟨m, j, rfl, rfl, h1, h2, hi, -⟩ := okC_yes ⟨HTT.out, hp⟩
      have hsf : shB sh = false := by
        rw [Bool.eq_false_iff]; exact fun h => HNO.out ⟨⟨HTT.out, hp⟩, h⟩
      rw [hsf] at HS
      refine (mePoint_yes m j h1 h2 hi _).mono ?_
      rintro e w' ⟨rfl, rfl⟩
      clear hp hsf
      go_wp2_with fail
      refine HS.out.mono ?_
      rintro e w1 ⟨rfl, hs1⟩
      go_wp2_with fail
      go_returns
      exact ⟨rfl, hs1 _⟩
    · refine (mePoint_no n i hp _).mono ?_
      rintro e w' ⟨rfl, rfl⟩
      clear hp
      go_wp2_with fail
      go_returns
      exact ⟨rfl, Below.refl _ _⟩
set_option maxHeartbeats 3200000 in
theorem implSumAt_yes (n i : Nat) (h1 : 1 ≤ n) (h2 : n ≤ 8) (hi : i < Pr.cnt n) (ts : List (List Int)) (hy : rowsB n 9 ts = true) (k : Nat) (hk : k < 6) (a : Option Addr) (cap : Nat) (a' : Option Addr) (cap' : Nat) (w : World) (hv : ShV w) (h : RdSS w w.heap.size a ts) (h' : RdS w w.heap.size a' (shL k)) :
    Calls Tryd.prog 15 #[.int .i64 n, .slice a ts.length cap, .int .i64 i, .slice a' 3 cap'] w (OutSumAt w (smv (wpt ts n i) (shS k) 3) true) := by
  have HC := Lib.hid (fun w h => cutOf_yes n h1 h2 i hi ts a cap w h hy)
  have HO := Lib.hid (fun w => offersAt_any n i h1 h2 hi ts hy w)
  have HE := Lib.hid (fun w => offSum_wpt h2 hi hy k hk w)
  have HSH := Lib.hid (fun w hv h => sharingOf_any (shL k) (shA k) true (.inr ⟨rfl, k, hk, rfl, rfl⟩) a' cap' w hv h)
  have HRD := Lib.hid h
  have HRS := Lib.hid h'
  have HV := Lib.hid hv
  skip
  clear h h' hy hv
  go_enter Tryd.func15, Tryd.ntmps15
  go_wp2_with fail
  refine (HC.out _ HRD.out).mono ?_
  rintro e w1 ⟨rfl, hb1⟩
  obtain ⟨hA1, hS1⟩ := two_heap w1 (.cells zeroC 47) (.cells zeroS 48)
  have hAB1 := balloc (balloc hb1 (.cells zeroC 47)) (.cells zeroS 48)
  have hAz1 : ((w1.alloc (.cells zeroC 47)).alloc (.cells zeroS 48)).heap.size = w1.heap.size + 2 := by simp
  have hz1 := hb1.size
  go_wp2_with (first | (with_reducible refine alloc_blk zeroC run_alloc_cake rfl rfl ?_) | ((with_reducible refine alloc_blk zeroS run_alloc_spot rfl rfl ?_); simp only [World.size_alloc, Act.put, List.setIfInBounds_toArray, List.set_cons_zero, List.set_cons_succ]) | ((with_reducible refine store_blk blkCake rfl _ _ rfl w1.heap.size (cakeA n ts) zeroC ?_ ?_ hA1 zeroC_size (cakeA_size _ _) (cakeA_one _ _) w1.heap.size (Nat.le_refl _) ?_); exact rfl; exact rfl; intro w2 hg2 hb2 hk2 hz2; have hs2 := (hk2 (w1.heap.size + 1) (by omega)).trans hS1) | ((with_reducible refine store_blk blkSpot rfl _ _ rfl (w1.heap.size + 1) (spA n i) zeroS ?_ ?_ hs2 zeroS_size (spA_size _ _) (spA_one _ _) (w1.heap.size + 1) (Nat.le_refl _) ?_); exact rfl; exact rfl; intro w3 hg3 hb3 hk3 hz3; have hc3 := (hk3 w1.heap.size (by omega)).trans hg2; have hB3 : Below w.heap.size w w3 := (hAB1.trans (hb2.mono hz1)).trans (hb3.mono (by omega)); have hz3' : w3.heap.size = w1.heap.size + 2 := (by rw [hz3, hz2, hAz1])))
  refine (HSH.out w3 (ShV_later HV.out hB3) (rds_mono (rds_later HRS.out hB3) hB3.size)).mono ?_
  rintro e w5 ⟨rfl, hb5⟩
  have hB5 := bnext hB3 hb5
  have hc5 := (hb5.block w1.heap.size (by omega)).trans hc3
  have hg5 := (hb5.block (w1.heap.size + 1) (by omega)).trans hg3
  have hz5 := hb5.size
  go_wp2_with (first | (with_reducible refine alloc_blk zeroH run_alloc_sh rfl rfl ?_) | ((with_reducible refine store_blk blkSh rfl _ _ rfl w5.heap.size (shA k) zeroH ?_ ?_ (heap_alloc_new _ _) zeroH_size (shA_size _) (shA_one _) w5.heap.size (Nat.le_refl _) ?_); exact rfl; exact rfl; intro w6 hg6 hb6 hk6 hz6; have hB6 : Below w.heap.size w w6 := (balloc hB5 _).trans (hb6.mono hB5.size); have hc6 := (hk6 w1.heap.size (by omega)).trans ((Below.heap_alloc w5 _ _ (by omega)).trans hc5); have hg16 := (hk6 (w1.heap.size + 1) (by omega)).trans ((Below.heap_alloc w5 _ _ (by omega)).trans hg5); have hz6' : w6.heap.size = w5.heap.size + 1 := (by rw [hz6]; simp)))
  refine wp_region_mix (fun w' => w'.heap[w1.heap.size]? = some (.cells (cakeA n ts) 47 (0, 0)) ∧ w'.heap[w1.heap.size + 1]? = some (.cells (spA n i) 48 (0, 0)) ∧ w'.heap[w5.heap.size]? = some (.cells (shA k) 51 (0, 0))) [2, 4] [0, 1, 3, 2, 4, 5, 6] (by kernel_rfl) (by kernel_rfl) (fun _ _ d _ _ h => by cases d <;> exact h) (by kernel_rfl) rfl ⟨hc6, hg16, hg6⟩ ?_
  refine mix_take 0 _ (.agg (cakeA n ts)) rfl rfl rfl (some 34) rfl (fun w' hw' => exec_row _ _ rfl w1.heap.size rfl (cakeA n ts) (load_ok blkCake w' _ _ hw'.1 (cakeA_size _ _))) ?_
  simp only [Act.put, List.setIfInBounds_toArray, List.set_cons_zero, List.set_cons_succ]
  refine mix_take 1 _ (.agg (spA n i)) rfl rfl rfl (some 35) rfl (fun w' hw' => exec_row _ _ rfl (w1.heap.size + 1) rfl (spA n i) (load_ok blkSpot w' _ _ hw'.2.1 (spA_size _ _))) ?_
  simp only [Act.put, List.setIfInBounds_toArray, List.set_cons_zero, List.set_cons_succ]
  refine mix_take 3 _ (.agg (shA k)) rfl rfl rfl (some 37) rfl (fun w' hw' => exec_row _ _ rfl w5.heap.size rfl (shA k) (load_ok blkSh w' _ _ hw'.2.2 (shA_size _))) ?_
  simp only [Act.put, List.setIfInBounds_toArray, List.set_cons_zero, List.set_cons_succ]
  refine mix_call 2 _ rfl rfl rfl 31 #[.agg (cakeA n ts), .agg (spA n i)] (some 36) rfl ?hr2 ?_
  case hr2 => go_simp
  refine (HO.out _).mono ?_
  rintro e w7 ⟨rfl, hb7'⟩
  have hb7 : Below w6.heap.size w6 w7 := ((Same.refl w6).drew w6.heap.size).trans hb7'
  have hB7 := bnext hB6 hb7
  have hS7 : w7.heap[w1.heap.size]? = some (.cells (cakeA n ts) 47 (0, 0)) ∧ w7.heap[w1.heap.size + 1]? = some (.cells (spA n i) 48 (0, 0)) ∧ w7.heap[w5.heap.size]? = some (.cells (shA k) 51 (0, 0)) := ⟨(hb7.block _ (by omega)).trans hc6, (hb7.block _ (by omega)).trans hg16, (hb7.block _ (by omega)).trans hg6⟩
  refine ⟨_, rfl, hS7, ?_⟩
  simp only [Act.put, List.setIfInBounds_toArray, List.set_cons_zero, List.set_cons_succ]
  refine mix_call 4 _ rfl rfl rfl 34 #[.agg (offA ts n i), .agg (shA k)] (some 38) rfl ?hr4 ?_
  case hr4 => go_simp
  refine (HE.out _).mono ?_
  rintro e w8 ⟨rfl, hb8⟩
  have hB8 := bnext hB7 hb8
  have hz7 := hb7.size
  refine ⟨_, rfl, ⟨(hb8.block _ (by omega)).trans hS7.1, (hb8.block _ (by omega)).trans hS7.2.1, (hb8.block _ (by omega)).trans hS7.2.2⟩, ?_⟩
  simp only [Act.put, List.setIfInBounds_toArray, List.set_cons_zero, List.set_cons_succ]
  refine mix_take 5 _ ?_ rfl rfl rfl (some 8) rfl (fun w' hw' => ?hv5) ?_
  case hv5 =>
    go_simp
    with_reducible rfl
  simp only [Act.put, List.setIfInBounds_toArray, List.set_cons_zero, List.set_cons_succ]
  refine mix_take 6 _ ?_ rfl rfl rfl (some 9) rfl (fun w' hw' => ?hv6) ?_
  case hv6 =>
    go_simp
    with_reducible rfl
  simp only [Act.put, List.setIfInBounds_toArray, List.set_cons_zero, List.set_cons_succ]
  refine mix_done ?_
  go_wp2_with fail
  go_returns
  exact ⟨rfl, hB8⟩
set_option maxHeartbeats 1600000 in
theorem implSumAt_no (n i : Int) (ts : List (List Int)) (sh : List Int) (hno : ¬ (okC n ts i ∧ shB sh = true)) (a : Option Addr) (cap : Nat) (a' : Option Addr) (cap' : Nat) (w : World) (hv : ShV w) (h : RdSS w w.heap.size a ts) (h' : RdS w w.heap.size a' sh) :
    Calls Tryd.prog 15 #[.int .i64 n, .slice a ts.length cap, .int .i64 i, .slice a' sh.length cap'] w (OutSumAt w 0 false) := by
  have HRD := Lib.hid h
  have HRS := Lib.hid h'
  have HV := Lib.hid hv
  clear h h' hv
  obtain ⟨r, ok, hr1, hr2, hrz⟩ : ∃ (r : Array Value) (ok : Bool), r.size = 3 ∧ r.all (·.oneCell') = true ∧ ((ok = false ∧ r = zeroH ∧ ∀ k, k < 6 → shL k ≠ sh) ∨ (ok = true ∧ ∃ k, k < 6 ∧ sh = shL k ∧ r = shA k)) := by
    cases hb : shB sh
    · exact ⟨zeroH, false, rfl, zeroH_one, .inl ⟨rfl, rfl, fun k hk e => shB_no hb k hk e.symm⟩⟩
    · obtain ⟨k, hk, e⟩ := shB_yes hb
      exact ⟨shA k, true, rfl, shA_one k, .inr ⟨rfl, k, hk, e, rfl⟩⟩
  have HSH := Lib.hid (fun w hv h => sharingOf_any sh r ok hrz a' cap' w hv h)
  have HR1 := Lib.hid hr1
  have HR2 := Lib.hid hr2
  by_cases hc : okC n ts i
  · have hok : ok = false := by
      rcases hrz with h | ⟨-, k, hk, e, -⟩
      · exact h.1
      · exact absurd ⟨hc, by rw [e]; simp only [shB, List.any_eq_true, List.mem_range, decide_eq_true_eq]; exact ⟨k, hk, rfl⟩⟩ hno
    subst hok
    obtain ⟨n, i, rfl, rfl, h1, h2, hi, hy⟩ := okC_yes hc
    have HC := Lib.hid (fun w h => cutOf_yes n h1 h2 i hi ts a cap w h hy)
    clear hno hc hy hr1 hr2 hrz
    go_enter Tryd.func15, Tryd.ntmps15
    go_wp2_with fail
    refine (HC.out _ HRD.out).mono ?_
    rintro e w1 ⟨rfl, hb1⟩
    obtain ⟨hA1, hS1⟩ := two_heap w1 (.cells zeroC 47) (.cells zeroS 48)
    have hAB1 := balloc (balloc hb1 (.cells zeroC 47)) (.cells zeroS 48)
    have hAz1 : ((w1.alloc (.cells zeroC 47)).alloc (.cells zeroS 48)).heap.size = w1.heap.size + 2 := by simp
    have hz1 := hb1.size
    go_wp2_with (first | (with_reducible refine alloc_blk zeroC run_alloc_cake rfl rfl ?_) | ((with_reducible refine alloc_blk zeroS run_alloc_spot rfl rfl ?_); simp only [World.size_alloc, Act.put, List.setIfInBounds_toArray, List.set_cons_zero, List.set_cons_succ]) | ((with_reducible refine store_blk blkCake rfl _ _ rfl w1.heap.size (cakeA n ts) zeroC ?_ ?_ hA1 zeroC_size (cakeA_size _ _) (cakeA_one _ _) w1.heap.size (Nat.le_refl _) ?_); exact rfl; exact rfl; intro w2 hg2 hb2 hk2 hz2; have hs2 := (hk2 (w1.heap.size + 1) (by omega)).trans hS1) | ((with_reducible refine store_blk blkSpot rfl _ _ rfl (w1.heap.size + 1) (spA n i) zeroS ?_ ?_ hs2 zeroS_size (spA_size _ _) (spA_one _ _) (w1.heap.size + 1) (Nat.le_refl _) ?_); exact rfl; exact rfl; intro w3 hg3 hb3 hk3 hz3; have hc3 := (hk3 w1.heap.size (by omega)).trans hg2; have hB3 : Below w.heap.size w w3 := (hAB1.trans (hb2.mono hz1)).trans (hb3.mono (by omega)); have hz3' : w3.heap.size = w1.heap.size + 2 := (by rw [hz3, hz2, hAz1])))
    refine (HSH.out w3 (ShV_later HV.out hB3) (rds_mono (rds_later HRS.out hB3) hB3.size)).mono ?_
    rintro e w5 ⟨rfl, hb5⟩
    have hB5 := bnext hB3 hb5
    have hc5 := (hb5.block w1.heap.size (by omega)).trans hc3
    have hg5 := (hb5.block (w1.heap.size + 1) (by omega)).trans hg3
    have hz5 := hb5.size
    go_wp2_with (first | (with_reducible refine alloc_blk zeroH run_alloc_sh rfl rfl ?_) | ((with_reducible refine store_blk blkSh rfl _ _ rfl w5.heap.size (r) zeroH ?_ ?_ (heap_alloc_new _ _) zeroH_size (HR1.out) (HR2.out) w5.heap.size (Nat.le_refl _) ?_); exact rfl; exact rfl; intro w6 hg6 hb6 hk6 hz6; have hB6 : Below w.heap.size w w6 := (balloc hB5 _).trans (hb6.mono hB5.size); have hc6 := (hk6 w1.heap.size (by omega)).trans ((Below.heap_alloc w5 _ _ (by omega)).trans hc5); have hg16 := (hk6 (w1.heap.size + 1) (by omega)).trans ((Below.heap_alloc w5 _ _ (by omega)).trans hg5); have hz6' : w6.heap.size = w5.heap.size + 1 := (by rw [hz6]; simp)))
    go_returns
    exact ⟨rfl, hB6⟩
  · have HC := Lib.hid (fun w h => cutOf_fail n i ts hc a cap w h)
    clear hno hc hr1 hr2 hrz
    go_enter Tryd.func15, Tryd.ntmps15
    go_wp2_with fail
    refine (HC.out _ HRD.out).mono ?_
    rintro e w1 ⟨rfl, hb1⟩
    obtain ⟨hA1, hS1⟩ := two_heap w1 (.cells zeroC 47) (.cells zeroS 48)
    have hAB1 := balloc (balloc hb1 (.cells zeroC 47)) (.cells zeroS 48)
    have hAz1 : ((w1.alloc (.cells zeroC 47)).alloc (.cells zeroS 48)).heap.size = w1.heap.size + 2 := by simp
    have hz1 := hb1.size
    go_wp2_with (first | (with_reducible refine alloc_blk zeroC run_alloc_cake rfl rfl ?_) | ((with_reducible refine alloc_blk zeroS run_alloc_spot rfl rfl ?_); simp only [World.size_alloc, Act.put, List.setIfInBounds_toArray, List.set_cons_zero, List.set_cons_succ]) | ((with_reducible refine store_blk blkCake rfl _ _ rfl w1.heap.size (zeroC) zeroC ?_ ?_ hA1 zeroC_size (zeroC_size) (zeroC_one) w1.heap.size (Nat.le_refl _) ?_); exact rfl; exact rfl; intro w2 hg2 hb2 hk2 hz2; have hs2 := (hk2 (w1.heap.size + 1) (by omega)).trans hS1) | ((with_reducible refine store_blk blkSpot rfl _ _ rfl (w1.heap.size + 1) (zeroS) zeroS ?_ ?_ hs2 zeroS_size (zeroS_size) (zeroS_one) (w1.heap.size + 1) (Nat.le_refl _) ?_); exact rfl; exact rfl; intro w3 hg3 hb3 hk3 hz3; have hc3 := (hk3 w1.heap.size (by omega)).trans hg2; have hB3 : Below w.heap.size w w3 := (hAB1.trans (hb2.mono hz1)).trans (hb3.mono (by omega)); have hz3' : w3.heap.size = w1.heap.size + 2 := (by rw [hz3, hz2, hAz1])))
    refine (HSH.out w3 (ShV_later HV.out hB3) (rds_mono (rds_later HRS.out hB3) hB3.size)).mono ?_
    rintro e w5 ⟨rfl, hb5⟩
    have hB5 := bnext hB3 hb5
    have hc5 := (hb5.block w1.heap.size (by omega)).trans hc3
    have hg5 := (hb5.block (w1.heap.size + 1) (by omega)).trans hg3
    have hz5 := hb5.size
    go_wp2_with (first | (with_reducible refine alloc_blk zeroH run_alloc_sh rfl rfl ?_) | ((with_reducible refine store_blk blkSh rfl _ _ rfl w5.heap.size (r) zeroH ?_ ?_ (heap_alloc_new _ _) zeroH_size (HR1.out) (HR2.out) w5.heap.size (Nat.le_refl _) ?_); exact rfl; exact rfl; intro w6 hg6 hb6 hk6 hz6; have hB6 : Below w.heap.size w w6 := (balloc hB5 _).trans (hb6.mono hB5.size); have hc6 := (hk6 w1.heap.size (by omega)).trans ((Below.heap_alloc w5 _ _ (by omega)).trans hc5); have hg16 := (hk6 (w1.heap.size + 1) (by omega)).trans ((Below.heap_alloc w5 _ _ (by omega)).trans hg5); have hz6' : w6.heap.size = w5.heap.size + 1 := (by rw [hz6]; simp)))
    go_returns
    exact ⟨rfl, hB6⟩
theorem law_SumAt (w : World) (n : Int) (_ : (Lit.int .i64 n).wf = true) (ts : List (List Int)) (a_ts : Option Addr) (c_ts : Nat) (h_ts : RdSS w w.heap.size a_ts ts) (i : Int) (_ : (Lit.int .i64 i).wf = true) (sh : List Int) (a_sh : Option Addr) (c_sh : Nat) (h_sh : RdS w w.heap.size a_sh sh) (hv : ShV w) :
    Calls Tryd.prog 4 #[.int .i64 n, .slice a_ts ts.length c_ts, .int .i64 i, .slice a_sh sh.length c_sh] w fun e w' => e = .returned (.bool true) ∧ Below w.heap.size w w' := by
  by_cases h : okC n ts i ∧ shB sh = true
  · obtain ⟨hc, hs⟩ := h
    obtain ⟨n, i, rfl, rfl, h1, h2, hi, hy⟩ := okC_yes hc
    obtain ⟨k, hk, rfl⟩ := shB_yes hs
    exact lawOf_SumAt n ts a_ts c_ts i (shL k) a_sh c_sh w h_ts h_sh hv _ _ (fun a c a' c' w' _ _ h h' => specSumAt_yes n i h1 h2 hi ts hy k hk  a c a' c' w' h h') (fun a c a' c' w' _ _ hv h h' => implSumAt_yes n i h1 h2 hi ts hy k hk  a c a' c' w' hv h h')
  · exact lawOf_SumAt n ts a_ts c_ts i sh a_sh c_sh w h_ts h_sh hv _ _ (fun a c a' c' w' _ _ h1 h2 => specSumAt_no n i ts sh h a c a' c' _ w' h1 h2) (fun a c a' c' w' _ _ hv h1 h2 => implSumAt_no n i ts sh h a c a' c' w' hv h1 h2)
end Go.Proofs.YtfpadepeanejeaaDoor
