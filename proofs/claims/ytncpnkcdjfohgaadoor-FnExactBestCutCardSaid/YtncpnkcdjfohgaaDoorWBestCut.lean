import Derived.RegionTactic
import Derived.Test.YtncpnkcdjfohgaaDoorMg1
import Derived.Test.YtncpnkcdjfohgaaDoorMg5
import Derived.Test.YtncpnkcdjfohgaaDoorMc1
import Derived.Test.YtncpnkcdjfohgaaDoorKd
import Derived.Test.YtncpnkcdjfohgaaDoorWLeastEnvy
namespace Go.Proofs.YtncpnkcdjfohgaaDoor
open Go.RowKit
set_option maxRecDepth 4000
def OutBestCut (w : World) (r0 : Int) (r1 : List Int) (r2 : Bool) (e : Ending) (w' : World) : Prop := ∃ v1, e = .returned (.tuple #[.int .i64 r0, v1, .bool r2]) ∧ OJ w' w.heap.size w'.heap.size v1 r1 ∧ Below w.heap.size w w'
set_option maxHeartbeats 3200000 in
theorem lawOf_BestCut (n : Int) (ts : List (List Int)) (a_ts : Option Addr) (c_ts : Nat) (w : World) (h_ts : RdSS w w.heap.size a_ts ts) (hvar : ShV w) (r0 : Int) (r1 : List Int) (r2 : Bool) (hL1 : r1.length ≤ 100000)
    (hs : ∀ (a_ts' : Option Addr) (c_ts' : Nat) (w' : World), SmallSS ts → RdSS w' w'.heap.size a_ts' ts → Calls Tryd.prog 13 #[.int .i64 n, .slice a_ts' ts.length c_ts'] w' (OutBestCut w' r0 r1 r2))
    (hi : ∀ (a_ts' : Option Addr) (c_ts' : Nat) (w' : World), SmallSS ts → ShV w' → RdSS w' w'.heap.size a_ts' ts → Calls Tryd.prog 14 #[.int .i64 n, .slice a_ts' ts.length c_ts'] w' (OutBestCut w' r0 r1 r2)) :
    Calls Tryd.prog 4 #[.int .i64 n, .slice a_ts ts.length c_ts] w fun e w' => e = .returned (.bool true) ∧ Below w.heap.size w w' := by
  have HS := Lib.hid hs
  have HI := Lib.hid hi
  clear hs hi
  have HV := Lib.hid hvar
  clear hvar
  have hne0 : (r0 != r0) = false := by simp
  have hne2 : (r2 != r2) = false := by simp
  have hB0 : Below w.heap.size w w := Below.refl _ _
  go_enter Tryd.func4, Tryd.ntmps4
  go_wp2_with fail
  refine (szIntSS_any ts a_ts c_ts _ 1048576 (by omega) (by omega) w h_ts).mono ?_
  rintro e w' ⟨l1, rfl, rfl, hl⟩
  rcases hl with hl | ⟨hl0_0, hl1_0, hsz_ts⟩
  · go_wp2_with fail
    go_ret
    exact ⟨rfl, Below.refl _ _⟩
  go_wp2_with fail
  refine (toIntSS_any ts a_ts c_ts _ _ h_ts (by omega) hsz_ts).mono ?_
  rintro e w1 ⟨v_tsp, rfl, o_tsp, hb⟩
  have hc := chg_below hb
  clear hb
  have z1 := hc.size
  replace h_ts := rdss_chg h_ts hc (by omega) (by omega)
  replace hB0 := below_chg hB0 hc (by omega) (by omega)
  clear hc
  obtain ⟨a_tsp, c_tsp, rfl, rd_tsp⟩ := oss_shape o_tsp
  go_wp2_with fail
  refine (HS.out a_tsp c_tsp _ hsz_ts (rdss_mono rd_tsp (by omega))).mono ?_
  rintro e w2 ⟨vs1, rfl, os1, hb⟩
  have hc := chg_below hb
  clear hb
  clear rd_tsp
  have z2 := hc.size
  replace h_ts := rdss_chg h_ts hc (by omega) (by omega)
  replace o_tsp := oss_keep o_tsp hc (by omega) (by omega)
  replace hB0 := below_chg hB0 hc (by omega) (by omega)
  clear hc
  obtain ⟨as1, cs1, -, rfl, -⟩ := oj_shape os1
  go_wp2_with fail
  clear o_tsp
  refine (toIntSS_any ts a_ts c_ts _ _ h_ts (by omega) hsz_ts).mono ?_
  rintro e w3 ⟨v_tsx, rfl, o_tsx, hb⟩
  have hc := chg_below hb
  clear hb
  have z3 := hc.size
  replace h_ts := rdss_chg h_ts hc (by omega) (by omega)
  replace os1 := oj_keep os1 hc (by omega) (by omega)
  replace hB0 := below_chg hB0 hc (by omega) (by omega)
  clear hc
  obtain ⟨a_tsx, c_tsx, rfl, rd_tsx⟩ := oss_shape o_tsx
  go_wp2_with fail
  refine (HI.out a_tsx c_tsx _ hsz_ts (ShV_later HV.out hB0) (rdss_mono rd_tsx (by omega))).mono ?_
  rintro e w4 ⟨vg1, rfl, og1, hb⟩
  have hc := chg_below hb
  clear hb
  clear rd_tsx
  have z4 := hc.size
  replace h_ts := rdss_chg h_ts hc (by omega) (by omega)
  replace os1 := oj_keep os1 hc (by omega) (by omega)
  replace o_tsx := oss_keep o_tsx hc (by omega) (by omega)
  replace hB0 := below_chg hB0 hc (by omega) (by omega)
  clear hc
  obtain ⟨ag1, cg1, -, rfl, -⟩ := oj_shape og1
  go_wp2_with fail
  refine (eqIntS_rd r1 ag1 as1 _ _ cg1 cs1 _ (oj_rds og1) (oj_rds os1)).mono ?_
  rintro e w5 ⟨rfl, hs⟩
  have hc := chg_same hs
  clear hs
  have z5 := hc.size
  replace h_ts := rdss_chg h_ts hc (by omega) (by omega)
  replace os1 := oj_keep os1 hc (by omega) (by omega)
  replace o_tsx := oss_keep o_tsx hc (by omega) (by omega)
  replace og1 := oj_keep og1 hc (by omega) (by omega)
  replace hB0 := below_chg hB0 hc (by omega) (by omega)
  clear hc
  go_wp2_with fail
  refine (toIntSS_any ts a_ts c_ts _ _ h_ts (by omega) hsz_ts).mono ?_
  rintro e w6 ⟨v_tsy, rfl, o_tsy, hb⟩
  have hc := chg_below hb
  clear hb
  have z6 := hc.size
  replace h_ts := rdss_chg h_ts hc (by omega) (by omega)
  replace os1 := oj_keep os1 hc (by omega) (by omega)
  replace o_tsx := oss_keep o_tsx hc (by omega) (by omega)
  replace og1 := oj_keep og1 hc (by omega) (by omega)
  replace hB0 := below_chg hB0 hc (by omega) (by omega)
  clear hc
  obtain ⟨a_tsy, c_tsy, rfl, -⟩ := oss_shape o_tsy
  go_wp2_with fail
  refine (eqIntSS_rd ts a_tsx a_tsy _ _ c_tsx c_tsy _ (oss_rds o_tsx) (oss_rds o_tsy)).mono ?_
  rintro e w7 ⟨rfl, hs⟩
  have hc := chg_same hs
  clear hs
  have z7 := hc.size
  replace h_ts := rdss_chg h_ts hc (by omega) (by omega)
  replace os1 := oj_keep os1 hc (by omega) (by omega)
  replace o_tsx := oss_keep o_tsx hc (by omega) (by omega)
  replace og1 := oj_keep og1 hc (by omega) (by omega)
  replace o_tsy := oss_keep o_tsy hc (by omega) (by omega)
  replace hB0 := below_chg hB0 hc (by omega) (by omega)
  clear hc
  go_wp2_with fail
  clear o_tsy
  obtain ⟨lx0, hlx0, hsx0, hnx0⟩ := small_lens hsz_ts
  refine (markIntSS_chg lx0 ts hlx0 hsx0 hnx0 a_tsx _ _ c_tsx _ (by omega) (by omega) _ o_tsx).mono ?_
  rintro e w8 ⟨rfl, -, hc⟩
  have htx0 : offs lx0 lx0.length ≤ 1099511627776 := Nat.le_trans (offs_big lx0 hsx0 lx0.length) (by omega)
  clear hlx0 hsx0
  generalize offs lx0 lx0.length = tx0 at htx0 ⊢
  clear o_tsx
  have z8 := hc.size
  replace h_ts := rdss_chg h_ts hc (by omega) (by omega)
  replace os1 := oj_keep os1 hc (by omega) (by omega)
  replace og1 := oj_keep og1 hc (by omega) (by omega)
  replace hB0 := below_chg hB0 hc (by omega) (by omega)
  clear hc
  go_wp2_with fail
  refine (eqIntS_rd r1 ag1 as1 _ _ cg1 cs1 _ (oj_rds og1) (oj_rds os1)).mono ?_
  rintro e w9 ⟨rfl, hs⟩
  have hc := chg_same hs
  clear hs
  have z9 := hc.size
  replace h_ts := rdss_chg h_ts hc (by omega) (by omega)
  replace os1 := oj_keep os1 hc (by omega) (by omega)
  replace og1 := oj_keep og1 hc (by omega) (by omega)
  replace hB0 := below_chg hB0 hc (by omega) (by omega)
  clear hc
  go_wp2_with fail
  refine (markIntS_oj r1 ag1 _ _ cg1 1 _ og1 (by omega) (by omega)).mono ?_
  rintro e w10 ⟨rfl, om1, hc⟩
  have hlm1 : (mkd 1 r1.length r1).length = r1.length := mkd_len _ _ _ (Nat.le_refl _)
  have HLM1 := Lib.hid hlm1
  clear hlm1
  clear og1
  have z10 := hc.size
  replace h_ts := rdss_chg h_ts hc (by omega) (by omega)
  replace os1 := oj_keep os1 hc (by omega) (by omega)
  replace hB0 := below_chg hB0 hc (by omega) (by omega)
  clear hc
  go_wp2_with fail
  refine (heldIntS_rd r1 1 ag1 _ _ cg1 _ HLM1.out (oj_rds2 om1) (by omega) (by omega)).mono ?_
  rintro e w' ⟨rfl, rfl⟩
  go_wp2_with fail
  refine (toIntSS_any ts a_ts c_ts _ _ h_ts (by omega) hsz_ts).mono ?_
  rintro e w11 ⟨v_tsz, rfl, o_tsz, hb⟩
  have hc := chg_below hb
  clear hb
  have z11 := hc.size
  replace h_ts := rdss_chg h_ts hc (by omega) (by omega)
  replace os1 := oj_keep os1 hc (by omega) (by omega)
  replace om1 := oj_keep om1 hc (by omega) (by omega)
  replace hB0 := below_chg hB0 hc (by omega) (by omega)
  clear hc
  obtain ⟨a_tsz, c_tsz, rfl, rd_tsz⟩ := oss_shape o_tsz
  go_wp2_with fail
  refine (HI.out a_tsz c_tsz _ hsz_ts (ShV_later HV.out hB0) (rdss_mono rd_tsz (by omega))).mono ?_
  rintro e w12 ⟨vh1, rfl, oh1, hb⟩
  have hc := chg_below hb
  clear hb
  clear rd_tsz
  have z12 := hc.size
  replace h_ts := rdss_chg h_ts hc (by omega) (by omega)
  replace os1 := oj_keep os1 hc (by omega) (by omega)
  replace om1 := oj_keep om1 hc (by omega) (by omega)
  replace o_tsz := oss_keep o_tsz hc (by omega) (by omega)
  replace hB0 := below_chg hB0 hc (by omega) (by omega)
  clear hc
  obtain ⟨ah1, ch1, -, rfl, -⟩ := oj_shape oh1
  go_wp2_with fail
  clear o_tsz
  refine (eqIntS_rd r1 ah1 as1 _ _ ch1 cs1 _ (oj_rds oh1) (oj_rds os1)).mono ?_
  rintro e w13 ⟨rfl, hs⟩
  have hc := chg_same hs
  clear hs
  have z13 := hc.size
  replace h_ts := rdss_chg h_ts hc (by omega) (by omega)
  replace os1 := oj_keep os1 hc (by omega) (by omega)
  replace om1 := oj_keep om1 hc (by omega) (by omega)
  replace oh1 := oj_keep oh1 hc (by omega) (by omega)
  replace hB0 := below_chg hB0 hc (by omega) (by omega)
  clear hc
  go_wp2_with fail
  refine (heldIntS_rd r1 1 ag1 _ _ cg1 _ HLM1.out (oj_rds2 om1) (by omega) (by omega)).mono ?_
  rintro e w' ⟨rfl, rfl⟩
  go_wp2_with fail
  go_ret
  exact ⟨rfl, hB0⟩
theorem oj_deal {w : World} {lo g i k : Nat} {e : Int} (h : w.heap[g]? = some (.cells (dA i k e) 60 (0, 0))) (hlo : lo ≤ g) : OJ w lo w.heap.size (.slice (some ⟨g, 1, none⟩) 3 3) (shL k) :=
  .inr ⟨g, 1, 3, rfl, hlo, (Array.getElem?_eq_some_iff.1 h).1, by simp [shL], _, _, h, fun j hj => by
    have hj3 : j < 3 := hj
    rcases (by omega : j = 0 ∨ j = 1 ∨ j = 2) with rfl | rfl | rfl <;> rfl⟩
set_option maxHeartbeats 800000 in
theorem specBestCut_yes (n : Nat) (h1 : 1 ≤ n) (h2 : n ≤ 8) (ts : List (List Int)) (hy : rowsB n 9 ts = true) (j : Nat) (hj : IsB (dlF (wpt ts n)) (6 * Pr.cnt n) j) (a : Option Addr) (cap : Nat) (w : World) (h : RdSS w w.heap.size a ts) :
    Calls Tryd.prog 13 #[.int .i64 n, .slice a ts.length cap] w (OutBestCut w ((j / 6 : Nat) : Int) (shL (j % 6)) true) := by
  have HT := Lib.hid (ckTastes_yes' n h1 h2 ts hy a cap _ w h)
  have HB := Lib.hid (ckBest_any n h1 h2 ts hy j hj a cap w h)
  clear h hy hj
  generalize -(dlF (wpt ts n) j) = e at *
  generalize ((j / 6 : Nat) : Int) = t at *
  go_enter Tryd.func13, Tryd.ntmps13
  go_wp2_with fail
  refine HT.out.mono ?_
  rintro e' w' ⟨rfl, rfl⟩
  go_wp2_with fail
  refine HB.out.mono ?_
  rintro e' w1 ⟨v, rfl, ho, hb1⟩
  go_wp2_with fail
  go_returns
  exact ⟨_, rfl, oj_oi ho, hb1⟩
set_option maxHeartbeats 800000 in
theorem specBestCut_no (n : Int) (ts : List (List Int)) (hno : tstB n ts = false) (a : Option Addr) (cap B : Nat) (w : World) (h : RdSS w B a ts) :
    Calls Tryd.prog 13 #[.int .i64 n, .slice a ts.length cap] w (OutBestCut w 0 [] false) := by
  have HT := Lib.hid (ckTastes_any n ts a cap B w h)
  rw [hno] at HT
  clear h hno
  go_enter Tryd.func13, Tryd.ntmps13
  go_wp2_with fail
  refine HT.out.mono ?_
  rintro e w' ⟨rfl, rfl⟩
  go_wp2_with fail
  go_returns
  exact ⟨_, rfl, oj_oi (oi_nil _ _ _), Below.refl _ _⟩
set_option maxHeartbeats 800000 in
theorem implBestCut_yes (n : Nat) (h1 : 1 ≤ n) (h2 : n ≤ 8) (ts : List (List Int)) (hy : rowsB n 9 ts = true) (j : Nat) (hj : IsB (dlF (wpt ts n)) (6 * Pr.cnt n) j) (a : Option Addr) (cap : Nat) (w : World) (hv : ShV w) (h : RdSS w w.heap.size a ts) :
    Calls Tryd.prog 14 #[.int .i64 n, .slice a ts.length cap] w (OutBestCut w ((j / 6 : Nat) : Int) (shL (j % 6)) true) := by
  have HC := Lib.hid (cakeOf_yes n h1 h2 ts a cap w h hy)
  have HL := Lib.hid (fun w hv => cakeLeast_any n h1 h2 ts hy j hj w hv)
  have HV := Lib.hid hv
  clear h hy hj hv
  generalize -(dlF (wpt ts n) j) = e at *
  go_enter Tryd.func14, Tryd.ntmps14
  go_wp2_with fail
  refine (HC.out).mono ?_
  rintro e w1 ⟨rfl, hb1⟩
  have hz1 := hb1.size
  go_wp2_with (first | (with_reducible refine alloc_blk zeroC run_alloc_cake rfl rfl ?_) | ((with_reducible refine store_blk blkCake rfl _ _ rfl w1.heap.size (cakeA n ts) zeroC ?_ ?_ (heap_alloc_new _ _) zeroC_size (cakeA_size _ _) (cakeA_one _ _) w1.heap.size (Nat.le_refl _) ?_); exact rfl; exact rfl; intro w2 hg2 hb2 hk2 hz2; have hB2 : Below w.heap.size w w2 := (balloc hb1 _).trans (hb2.mono hz1)) | ((with_reducible refine load_blk blkCake ?_ _ rfl (w1.heap.size) ?_ (cakeA n ts) hg2 (cakeA_size _ _) ?_); exact rfl; exact rfl; simp only [Act.put, List.setIfInBounds_toArray, List.set_cons_zero, List.set_cons_succ]))
  refine (HL.out w2 (ShV_later HV.out hB2)).mono ?_
  rintro e' w3 ⟨rfl, hb3⟩
  have hB3 := bnext hB2 hb3
  have hz3 := hB3.size
  have hg4 := heap_alloc_new w3 (.cells zeroD 60)
  have hb4 := balloc hB3 (.cells zeroD 60)
  go_wp2_with (first | (with_reducible refine alloc_blk zeroD run_alloc_deal rfl rfl ?_) | ((with_reducible refine store_blk blkDeal rfl _ _ rfl w3.heap.size (dA (j / 6) (j % 6) e) zeroD ?_ ?_ hg4 zeroD_size (dA_size _ _ _) (dA_one _ _ _) w3.heap.size (Nat.le_refl _) ?_); exact rfl; exact rfl; intro w5 hg5 hb5 hk5 hz5))
  have hB5 := hb4.trans (hb5.mono hz3)
  refine wp_region_mix (fun w' => w'.heap[w3.heap.size]? = some (.cells (dA (j / 6) (j % 6) e) 60 (0, 0))) [] [0, 1, 2, 3, 4, 5, 6] (by kernel_rfl) (by kernel_rfl) (fun _ _ d _ _ h => by cases d <;> exact h) (by kernel_rfl) rfl hg5 ?_
  refine mix_take 0 _ ?_ rfl rfl rfl (some 20) rfl (fun w' hw' => ?hv0) ?_
  case hv0 =>
    go_simp
    with_reducible rfl
  simp only [Act.put, List.setIfInBounds_toArray, List.set_cons_zero, List.set_cons_succ]
  refine mix_take 1 _ ?_ rfl rfl rfl (some 21) rfl (fun w' hw' => ?hv1) ?_
  case hv1 =>
    have s0 : w'.cell? ⟨w3.heap.size, 0, none⟩ = some (.int .i64 ((j / 6 : Nat) : Int)) := blk_cell hw' 0 _ rfl
    go_simp
    with_reducible rfl
  simp only [Act.put, List.setIfInBounds_toArray, List.set_cons_zero, List.set_cons_succ]
  refine mix_take 2 _ ?_ rfl rfl rfl (some 22) rfl (fun w' hw' => ?hv2) ?_
  case hv2 =>
    go_simp
    with_reducible rfl
  simp only [Act.put, List.setIfInBounds_toArray, List.set_cons_zero, List.set_cons_succ]
  refine mix_take 3 _ ?_ rfl rfl rfl (some 23) rfl (fun w' hw' => ?hv3) ?_
  case hv3 =>
    go_simp
    with_reducible rfl
  simp only [Act.put, List.setIfInBounds_toArray, List.set_cons_zero, List.set_cons_succ]
  refine mix_take 4 _ ?_ rfl rfl rfl (some 4) rfl (fun w' hw' => ?hv4) ?_
  case hv4 =>
    go_simp
    with_reducible rfl
  simp only [Act.put, List.setIfInBounds_toArray, List.set_cons_zero, List.set_cons_succ]
  refine mix_take 5 _ ?_ rfl rfl rfl (some 5) rfl (fun w' hw' => ?hv5) ?_
  case hv5 =>
    go_simp
    with_reducible rfl
  simp only [Act.put, List.setIfInBounds_toArray, List.set_cons_zero, List.set_cons_succ]
  refine mix_take 6 _ ?_ rfl rfl rfl (some 6) rfl (fun w' hw' => ?hv6) ?_
  case hv6 =>
    go_simp
    with_reducible rfl
  simp only [Act.put, List.setIfInBounds_toArray, List.set_cons_zero, List.set_cons_succ]
  refine mix_done ?_
  go_wp2_with fail
  go_returns
  exact ⟨_, rfl, oj_deal hg5 hz3, hB5.trans ((Same.refl w5).drew _)⟩
set_option maxHeartbeats 800000 in
theorem implBestCut_no (n : Int) (ts : List (List Int)) (hno : tstB n ts = false) (a : Option Addr) (cap : Nat) (w : World) (h : RdSS w w.heap.size a ts) :
    Calls Tryd.prog 14 #[.int .i64 n, .slice a ts.length cap] w (OutBestCut w 0 [] false) := by
  have HC := Lib.hid (cakeOf_fail n ts hno a cap w h)
  clear h hno
  go_enter Tryd.func14, Tryd.ntmps14
  go_wp2_with fail
  refine (HC.out).mono ?_
  rintro e w1 ⟨rfl, hb1⟩
  have hz1 := hb1.size
  go_wp2_with (first | (with_reducible refine alloc_blk zeroC run_alloc_cake rfl rfl ?_) | ((with_reducible refine store_blk blkCake rfl _ _ rfl w1.heap.size (zeroC) zeroC ?_ ?_ (heap_alloc_new _ _) zeroC_size (zeroC_size) (zeroC_one) w1.heap.size (Nat.le_refl _) ?_); exact rfl; exact rfl; intro w2 hg2 hb2 hk2 hz2; have hB2 : Below w.heap.size w w2 := (balloc hb1 _).trans (hb2.mono hz1)))
  go_returns
  exact ⟨_, rfl, oj_oi (oi_nil _ _ _), hB2⟩
theorem law_BestCut (w : World) (n : Int) (_ : (Lit.int .i64 n).wf = true) (ts : List (List Int)) (a_ts : Option Addr) (c_ts : Nat) (h_ts : RdSS w w.heap.size a_ts ts) (hv : ShV w) :
    Calls Tryd.prog 4 #[.int .i64 n, .slice a_ts ts.length c_ts] w fun e w' => e = .returned (.bool true) ∧ Below w.heap.size w w' := by
  cases h : tstB n ts
  · exact lawOf_BestCut n ts a_ts c_ts w h_ts hv _ _ _ (by simp) (fun a c w' _ h' => specBestCut_no n ts h a c _ w' h') (fun a c w' _ _ h' => implBestCut_no n ts h a c w' h')
  · obtain ⟨n, rfl, h1, h2, hy⟩ := tstB_yes h
    obtain ⟨j, hj⟩ := best_deal (wpt ts n) n (cnt_pos n)
    exact lawOf_BestCut n ts a_ts c_ts w h_ts hv _ (shL (j % 6)) _ (by show 3 ≤ 100000; omega) (fun a c w' _ h' => specBestCut_yes n h1 h2 ts hy j hj a c w' h') (fun a c w' _ hv h' => implBestCut_yes n h1 h2 ts hy j hj a c w' hv h')
end Go.Proofs.YtncpnkcdjfohgaaDoor
