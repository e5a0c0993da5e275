import Derived.RegionTactic
import Derived.Test.YtncpnkcdjfohgaaDoorMg7
import Derived.Test.YtncpnkcdjfohgaaDoorMg8
import Derived.Test.YtncpnkcdjfohgaaDoorKd
namespace Go.Proofs.YtncpnkcdjfohgaaDoor
open Go.RowKit
set_option maxRecDepth 4000
def OutFairRent (w : World) (r0 : Int) (r1 : List Int) (r2 : Bool) (e : Ending) (w' : World) : Prop := ∃ v1, e = .returned (.tuple #[.int .i64 r0, v1, .bool r2]) ∧ OJ w' w.heap.size w'.heap.size v1 r1 ∧ Below w.heap.size w w'
set_option maxHeartbeats 3200000 in
theorem lawOf_FairRent (n : Int) (ws : List (List Int)) (a_ws : Option Addr) (c_ws : Nat) (w : World) (h_ws : RdSS w w.heap.size a_ws ws) (hvar : ShV w) (r0 : Int) (r1 : List Int) (r2 : Bool) (hL1 : r1.length ≤ 100000)
    (hs : ∀ (a_ws' : Option Addr) (c_ws' : Nat) (w' : World), SmallSS ws → RdSS w' w'.heap.size a_ws' ws → Calls Tryd.prog 19 #[.int .i64 n, .slice a_ws' ws.length c_ws'] w' (OutFairRent w' r0 r1 r2))
    (hi : ∀ (a_ws' : Option Addr) (c_ws' : Nat) (w' : World), SmallSS ws → ShV w' → RdSS w' w'.heap.size a_ws' ws → Calls Tryd.prog 20 #[.int .i64 n, .slice a_ws' ws.length c_ws'] w' (OutFairRent w' r0 r1 r2)) :
    Calls Tryd.prog 5 #[.int .i64 n, .slice a_ws ws.length c_ws] w fun e w' => e = .returned (.bool true) ∧ Below w.heap.size w w' := by
  have HS := Lib.hid hs
  have HI := Lib.hid hi
  clear hs hi
  have HV := Lib.hid hvar
  clear hvar
  have hne0 : (r0 != r0) = false := by simp
  have hne2 : (r2 != r2) = false := by simp
  have hB0 : Below w.heap.size w w := Below.refl _ _
  go_enter Tryd.func5, Tryd.ntmps5
  go_wp2_with fail
  refine (szIntSS_any ws a_ws c_ws _ 1048576 (by omega) (by omega) w h_ws).mono ?_
  rintro e w' ⟨l1, rfl, rfl, hl⟩
  rcases hl with hl | ⟨hl0_0, hl1_0, hsz_ws⟩
  · go_wp2_with fail
    go_ret
    exact ⟨rfl, Below.refl _ _⟩
  go_wp2_with fail
  refine (toIntSS_any ws a_ws c_ws _ _ h_ws (by omega) hsz_ws).mono ?_
  rintro e w1 ⟨v_wsp, rfl, o_wsp, hb⟩
  have hc := chg_below hb
  clear hb
  have z1 := hc.size
  replace h_ws := rdss_chg h_ws hc (by omega) (by omega)
  replace hB0 := below_chg hB0 hc (by omega) (by omega)
  clear hc
  obtain ⟨a_wsp, c_wsp, rfl, rd_wsp⟩ := oss_shape o_wsp
  go_wp2_with fail
  refine (HS.out a_wsp c_wsp _ hsz_ws (rdss_mono rd_wsp (by omega))).mono ?_
  rintro e w2 ⟨vs1, rfl, os1, hb⟩
  have hc := chg_below hb
  clear hb
  clear rd_wsp
  have z2 := hc.size
  replace h_ws := rdss_chg h_ws hc (by omega) (by omega)
  replace o_wsp := oss_keep o_wsp hc (by omega) (by omega)
  replace hB0 := below_chg hB0 hc (by omega) (by omega)
  clear hc
  obtain ⟨as1, cs1, -, rfl, -⟩ := oj_shape os1
  go_wp2_with fail
  clear o_wsp
  refine (toIntSS_any ws a_ws c_ws _ _ h_ws (by omega) hsz_ws).mono ?_
  rintro e w3 ⟨v_wsx, rfl, o_wsx, hb⟩
  have hc := chg_below hb
  clear hb
  have z3 := hc.size
  replace h_ws := rdss_chg h_ws hc (by omega) (by omega)
  replace os1 := oj_keep os1 hc (by omega) (by omega)
  replace hB0 := below_chg hB0 hc (by omega) (by omega)
  clear hc
  obtain ⟨a_wsx, c_wsx, rfl, rd_wsx⟩ := oss_shape o_wsx
  go_wp2_with fail
  refine (HI.out a_wsx c_wsx _ hsz_ws (ShV_later HV.out hB0) (rdss_mono rd_wsx (by omega))).mono ?_
  rintro e w4 ⟨vg1, rfl, og1, hb⟩
  have hc := chg_below hb
  clear hb
  clear rd_wsx
  have z4 := hc.size
  replace h_ws := rdss_chg h_ws hc (by omega) (by omega)
  replace os1 := oj_keep os1 hc (by omega) (by omega)
  replace o_wsx := oss_keep o_wsx hc (by omega) (by omega)
  replace hB0 := below_chg hB0 hc (by omega) (by omega)
  clear hc
  obtain ⟨ag1, cg1, -, rfl, -⟩ := oj_shape og1
  go_wp2_with fail
  refine (eqIntS_rd r1 ag1 as1 _ _ cg1 cs1 _ (oj_rds og1) (oj_rds os1)).mono ?_
  rintro e w5 ⟨rfl, hs⟩
  have hc := chg_same hs
  clear hs
  have z5 := hc.size
  replace h_ws := rdss_chg h_ws hc (by omega) (by omega)
  replace os1 := oj_keep os1 hc (by omega) (by omega)
  replace o_wsx := oss_keep o_wsx hc (by omega) (by omega)
  replace og1 := oj_keep og1 hc (by omega) (by omega)
  replace hB0 := below_chg hB0 hc (by omega) (by omega)
  clear hc
  go_wp2_with fail
  refine (toIntSS_any ws a_ws c_ws _ _ h_ws (by omega) hsz_ws).mono ?_
  rintro e w6 ⟨v_wsy, rfl, o_wsy, hb⟩
  have hc := chg_below hb
  clear hb
  have z6 := hc.size
  replace h_ws := rdss_chg h_ws hc (by omega) (by omega)
  replace os1 := oj_keep os1 hc (by omega) (by omega)
  replace o_wsx := oss_keep o_wsx hc (by omega) (by omega)
  replace og1 := oj_keep og1 hc (by omega) (by omega)
  replace hB0 := below_chg hB0 hc (by omega) (by omega)
  clear hc
  obtain ⟨a_wsy, c_wsy, rfl, -⟩ := oss_shape o_wsy
  go_wp2_with fail
  refine (eqIntSS_rd ws a_wsx a_wsy _ _ c_wsx c_wsy _ (oss_rds o_wsx) (oss_rds o_wsy)).mono ?_
  rintro e w7 ⟨rfl, hs⟩
  have hc := chg_same hs
  clear hs
  have z7 := hc.size
  replace h_ws := rdss_chg h_ws hc (by omega) (by omega)
  replace os1 := oj_keep os1 hc (by omega) (by omega)
  replace o_wsx := oss_keep o_wsx hc (by omega) (by omega)
  replace og1 := oj_keep og1 hc (by omega) (by omega)
  replace o_wsy := oss_keep o_wsy hc (by omega) (by omega)
  replace hB0 := below_chg hB0 hc (by omega) (by omega)
  clear hc
  go_wp2_with fail
  clear o_wsy
  obtain ⟨lx0, hlx0, hsx0, hnx0⟩ := small_lens hsz_ws
  refine (markIntSS_chg lx0 ws hlx0 hsx0 hnx0 a_wsx _ _ c_wsx _ (by omega) (by omega) _ o_wsx).mono ?_
  rintro e w8 ⟨rfl, -, hc⟩
  have htx0 : offs lx0 lx0.length ≤ 1099511627776 := Nat.le_trans (offs_big lx0 hsx0 lx0.length) (by omega)
  clear hlx0 hsx0
  generalize offs lx0 lx0.length = tx0 at htx0 ⊢
  clear o_wsx
  have z8 := hc.size
  replace h_ws := rdss_chg h_ws hc (by omega) (by omega)
  replace os1 := oj_keep os1 hc (by omega) (by omega)
  replace og1 := oj_keep og1 hc (by omega) (by omega)
  replace hB0 := below_chg hB0 hc (by omega) (by omega)
  clear hc
  go_wp2_with fail
  refine (eqIntS_rd r1 ag1 as1 _ _ cg1 cs1 _ (oj_rds og1) (oj_rds os1)).mono ?_
  rintro e w9 ⟨rfl, hs⟩
  have hc := chg_same hs
  clear hs
  have z9 := hc.size
  replace h_ws := rdss_chg h_ws hc (by omega) (by omega)
  replace os1 := oj_keep os1 hc (by omega) (by omega)
  replace og1 := oj_keep og1 hc (by omega) (by omega)
  replace hB0 := below_chg hB0 hc (by omega) (by omega)
  clear hc
  go_wp2_with fail
  refine (markIntS_oj r1 ag1 _ _ cg1 1 _ og1 (by omega) (by omega)).mono ?_
  rintro e w10 ⟨rfl, om1, hc⟩
  have hlm1 : (mkd 1 r1.length r1).length = r1.length := mkd_len _ _ _ (Nat.le_refl _)
  have HLM1 := Lib.hid hlm1
  clear hlm1
  clear og1
  have z10 := hc.size
  replace h_ws := rdss_chg h_ws hc (by omega) (by omega)
  replace os1 := oj_keep os1 hc (by omega) (by omega)
  replace hB0 := below_chg hB0 hc (by omega) (by omega)
  clear hc
  go_wp2_with fail
  refine (heldIntS_rd r1 1 ag1 _ _ cg1 _ HLM1.out (oj_rds2 om1) (by omega) (by omega)).mono ?_
  rintro e w' ⟨rfl, rfl⟩
  go_wp2_with fail
  refine (toIntSS_any ws a_ws c_ws _ _ h_ws (by omega) hsz_ws).mono ?_
  rintro e w11 ⟨v_wsz, rfl, o_wsz, hb⟩
  have hc := chg_below hb
  clear hb
  have z11 := hc.size
  replace h_ws := rdss_chg h_ws hc (by omega) (by omega)
  replace os1 := oj_keep os1 hc (by omega) (by omega)
  replace om1 := oj_keep om1 hc (by omega) (by omega)
  replace hB0 := below_chg hB0 hc (by omega) (by omega)
  clear hc
  obtain ⟨a_wsz, c_wsz, rfl, rd_wsz⟩ := oss_shape o_wsz
  go_wp2_with fail
  refine (HI.out a_wsz c_wsz _ hsz_ws (ShV_later HV.out hB0) (rdss_mono rd_wsz (by omega))).mono ?_
  rintro e w12 ⟨vh1, rfl, oh1, hb⟩
  have hc := chg_below hb
  clear hb
  clear rd_wsz
  have z12 := hc.size
  replace h_ws := rdss_chg h_ws hc (by omega) (by omega)
  replace os1 := oj_keep os1 hc (by omega) (by omega)
  replace om1 := oj_keep om1 hc (by omega) (by omega)
  replace o_wsz := oss_keep o_wsz hc (by omega) (by omega)
  replace hB0 := below_chg hB0 hc (by omega) (by omega)
  clear hc
  obtain ⟨ah1, ch1, -, rfl, -⟩ := oj_shape oh1
  go_wp2_with fail
  clear o_wsz
  refine (eqIntS_rd r1 ah1 as1 _ _ ch1 cs1 _ (oj_rds oh1) (oj_rds os1)).mono ?_
  rintro e w13 ⟨rfl, hs⟩
  have hc := chg_same hs
  clear hs
  have z13 := hc.size
  replace h_ws := rdss_chg h_ws hc (by omega) (by omega)
  replace os1 := oj_keep os1 hc (by omega) (by omega)
  replace om1 := oj_keep om1 hc (by omega) (by omega)
  replace oh1 := oj_keep oh1 hc (by omega) (by omega)
  replace hB0 := below_chg hB0 hc (by omega) (by omega)
  clear hc
  go_wp2_with fail
  refine (heldIntS_rd r1 1 ag1 _ _ cg1 _ HLM1.out (oj_rds2 om1) (by omega) (by omega)).mono ?_
  rintro e w' ⟨rfl, rfl⟩
  go_wp2_with fail
  go_ret
  exact ⟨rfl, hB0⟩
theorem oj_dealF {w : World} {lo g i k : Nat} {e : Int} (h : w.heap[g]? = some (.cells (dA i k e) 60 (0, 0))) (hlo : lo ≤ g) : OJ w lo w.heap.size (.slice (some ⟨g, 1, none⟩) 3 3) (shL k) :=
  .inr ⟨g, 1, 3, rfl, hlo, (Array.getElem?_eq_some_iff.1 h).1, by simp [shL], _, _, h, fun j hj => by
    have hj3 : j < 3 := hj
    rcases (by omega : j = 0 ∨ j = 1 ∨ j = 2) with rfl | rfl | rfl <;> rfl⟩
set_option maxHeartbeats 800000 in
theorem specFairRent_no (n : Int) (ts : List (List Int)) (hno : ¬ ((1 ≤ n ∧ n ≤ 8) ∧ rowsB 3 20 ts = true)) (a : Option Addr) (cap B : Nat) (w : World) (h : RdSS w B a ts) :
    Calls Tryd.prog 19 #[.int .i64 n, .slice a ts.length cap] w (OutFairRent w 0 [] false) := by
  have HT := Lib.hid (ckRooms_any ts a cap B w h)
  have HNO := Lib.hid hno
  clear h hno
  go_enter Tryd.func19, Tryd.ntmps19
  go_wp2_with fail
  by_cases hn : 1 ≤ n ∧ n ≤ 8
  · obtain ⟨n, rfl⟩ := Int.eq_ofNat_of_zero_le (show 0 ≤ n by omega)
    have hy : rowsB 3 20 ts = false := by
      rw [Bool.eq_false_iff]; exact fun h => HNO.out ⟨hn, h⟩
    rw [hy] at HT
    refine (meSide_yes n (by omega) (by omega) _).mono ?_
    rintro e w' ⟨rfl, rfl⟩
    clear hn hy
    go_wp2_with fail
    refine HT.out.mono ?_
    rintro e w' ⟨rfl, rfl⟩
    go_wp2_with fail
    go_returns
    exact ⟨_, rfl, oj_oi (oi_nil _ _ _), Below.refl _ _⟩
  · refine (meSide_no n hn _).mono ?_
    rintro e w' ⟨rfl, rfl⟩
    clear hn
    go_wp2_with fail
    go_returns
    exact ⟨_, rfl, oj_oi (oi_nil _ _ _), Below.refl _ _⟩
set_option maxHeartbeats 800000 in
theorem implFairRent_yes (n : Nat) (h1 : 1 ≤ n) (h2 : n ≤ 8) (ts : List (List Int)) (hy : rowsB 3 20 ts = true) (j : Nat) (hj : IsB (dlF (rnW ts n)) (6 * Pr.cnt n) j) (a : Option Addr) (cap : Nat) (w : World) (hv : ShV w) (h : RdSS w w.heap.size a ts) :
    Calls Tryd.prog 20 #[.int .i64 n, .slice a ts.length cap] w (OutFairRent w ((j / 6 : Nat) : Int) (shL (j % 6)) true) := by
  have HC := Lib.hid (flatOf_yes n h1 h2 ts hy a cap w h)
  have HL := Lib.hid (fun w hv => flatLeast_any n h1 h2 ts hy j hj w hv)
  have HV := Lib.hid hv
  clear h hy hj hv
  generalize -(dlF (rnW ts n) j) = e at *
  go_enter Tryd.func20, Tryd.ntmps20
  go_wp2_with fail
  refine (HC.out).mono ?_
  rintro e w1 ⟨rfl, hb1⟩
  have hz1 := hb1.size
  go_wp2_with (first | (with_reducible refine alloc_blk zeroF run_alloc_flat rfl rfl ?_) | ((with_reducible refine store_blk blkFlat rfl _ _ rfl w1.heap.size (flA n (rw9 ts)) zeroF ?_ ?_ (heap_alloc_new _ _) zeroF_size (flA_size _ _) (flA_one _ _) w1.heap.size (Nat.le_refl _) ?_); exact rfl; exact rfl; intro w2 hg2 hb2 hk2 hz2; have hB2 : Below w.heap.size w w2 := (balloc hb1 _).trans (hb2.mono hz1)) | ((with_reducible refine load_blk blkFlat ?_ _ rfl (w1.heap.size) ?_ (flA n (rw9 ts)) hg2 (flA_size _ _) ?_); exact rfl; exact rfl; simp only [Act.put, List.setIfInBounds_toArray, List.set_cons_zero, List.set_cons_succ]))
  refine (HL.out w2 (ShV_later HV.out hB2)).mono ?_
  rintro e' w3 ⟨rfl, hb3⟩
  have hB3 := bnext hB2 hb3
  have hz3 := hB3.size
  have hg4 := heap_alloc_new w3 (.cells zeroD 60)
  have hb4 := balloc hB3 (.cells zeroD 60)
  go_wp2_with (first | (with_reducible refine alloc_blk zeroD run_alloc_deal rfl rfl ?_) | ((with_reducible refine store_blk blkDeal rfl _ _ rfl w3.heap.size (dA (j / 6) (j % 6) e) zeroD ?_ ?_ hg4 zeroD_size (dA_size _ _ _) (dA_one _ _ _) w3.heap.size (Nat.le_refl _) ?_); exact rfl; exact rfl; intro w5 hg5 hb5 hk5 hz5))
  have hB5 := hb4.trans (hb5.mono hz3)
  refine wp_region_mix (fun w' => w'.heap[w3.heap.size]? = some (.cells (dA (j / 6) (j % 6) e) 60 (0, 0))) [] [0, 1, 2, 3, 4, 5, 6] (by kernel_rfl) (by kernel_rfl) (fun _ _ d _ _ h => by cases d <;> exact h) (by kernel_rfl) rfl hg5 ?_
  refine mix_take 0 _ ?_ rfl rfl rfl (some 20) rfl (fun w' hw' => ?hv0) ?_
  case hv0 =>
    go_simp
    with_reducible rfl
  simp only [Act.put, List.setIfInBounds_toArray, List.set_cons_zero, List.set_cons_succ]
  refine mix_take 1 _ ?_ rfl rfl rfl (some 21) rfl (fun w' hw' => ?hv1) ?_
  case hv1 =>
    have s0 : w'.cell? ⟨w3.heap.size, 0, none⟩ = some (.int .i64 ((j / 6 : Nat) : Int)) := blk_cell hw' 0 _ rfl
    go_simp
    with_reducible rfl
  simp only [Act.put, List.setIfInBounds_toArray, List.set_cons_zero, List.set_cons_succ]
  refine mix_take 2 _ ?_ rfl rfl rfl (some 22) rfl (fun w' hw' => ?hv2) ?_
  case hv2 =>
    go_simp
    with_reducible rfl
  simp only [Act.put, List.setIfInBounds_toArray, List.set_cons_zero, List.set_cons_succ]
  refine mix_take 3 _ ?_ rfl rfl rfl (some 23) rfl (fun w' hw' => ?hv3) ?_
  case hv3 =>
    go_simp
    with_reducible rfl
  simp only [Act.put, List.setIfInBounds_toArray, List.set_cons_zero, List.set_cons_succ]
  refine mix_take 4 _ ?_ rfl rfl rfl (some 4) rfl (fun w' hw' => ?hv4) ?_
  case hv4 =>
    go_simp
    with_reducible rfl
  simp only [Act.put, List.setIfInBounds_toArray, List.set_cons_zero, List.set_cons_succ]
  refine mix_take 5 _ ?_ rfl rfl rfl (some 5) rfl (fun w' hw' => ?hv5) ?_
  case hv5 =>
    go_simp
    with_reducible rfl
  simp only [Act.put, List.setIfInBounds_toArray, List.set_cons_zero, List.set_cons_succ]
  refine mix_take 6 _ ?_ rfl rfl rfl (some 6) rfl (fun w' hw' => ?hv6) ?_
  case hv6 =>
    go_simp
    with_reducible rfl
  simp only [Act.put, List.setIfInBounds_toArray, List.set_cons_zero, List.set_cons_succ]
  refine mix_done ?_
  go_wp2_with fail
  go_returns
  exact ⟨_, rfl, oj_dealF hg5 hz3, hB5.trans ((Same.refl w5).drew _)⟩
set_option maxHeartbeats 800000 in
theorem implFairRent_no (n : Int) (ts : List (List Int)) (hno : ¬ ((1 ≤ n ∧ n ≤ 8) ∧ rowsB 3 20 ts = true)) (a : Option Addr) (cap : Nat) (w : World) (h : RdSS w w.heap.size a ts) :
    Calls Tryd.prog 20 #[.int .i64 n, .slice a ts.length cap] w (OutFairRent w 0 [] false) := by
  have HC := Lib.hid (flatOf_no n ts hno a cap w h)
  clear h hno
  go_enter Tryd.func20, Tryd.ntmps20
  go_wp2_with fail
  refine (HC.out).mono ?_
  rintro e w1 ⟨rfl, hb1⟩
  have hz1 := hb1.size
  go_wp2_with (first | (with_reducible refine alloc_blk zeroF run_alloc_flat rfl rfl ?_) | ((with_reducible refine store_blk blkFlat rfl _ _ rfl w1.heap.size (zeroF) zeroF ?_ ?_ (heap_alloc_new _ _) zeroF_size (zeroF_size) (zeroF_one) w1.heap.size (Nat.le_refl _) ?_); exact rfl; exact rfl; intro w2 hg2 hb2 hk2 hz2; have hB2 : Below w.heap.size w w2 := (balloc hb1 _).trans (hb2.mono hz1)))
  go_returns
  exact ⟨_, rfl, oj_oi (oi_nil _ _ _), hB2⟩
theorem cnt_posF (n : Nat) : 1 ≤ Pr.cnt n := by
  have := Pr.T_succ n
  unfold Pr.cnt
  omega
theorem best_dealF (W : Nat → Nat → Nat → Int) (n : Nat) (hc : 1 ≤ Pr.cnt n) : ∃ j, IsB (dlF W) (6 * Pr.cnt n) j := by
  obtain ⟨j, h⟩ := isB_exists (dlF W) (6 * Pr.cnt n - 1)
  rw [show 6 * Pr.cnt n - 1 + 1 = 6 * Pr.cnt n by omega] at h
  exact ⟨j, h⟩
theorem law_FairRent (w : World) (n : Int) (_ : (Lit.int .i64 n).wf = true) (ws : List (List Int)) (a_ws : Option Addr) (c_ws : Nat) (h_ws : RdSS w w.heap.size a_ws ws) (hv : ShV w) :
    Calls Tryd.prog 5 #[.int .i64 n, .slice a_ws ws.length c_ws] w fun e w' => e = .returned (.bool true) ∧ Below w.heap.size w w' := by
  by_cases h : (1 ≤ n ∧ n ≤ 8) ∧ rowsB 3 20 ws = true
  · obtain ⟨hn, hy⟩ := h
    obtain ⟨n, rfl⟩ := Int.eq_ofNat_of_zero_le (show 0 ≤ n by omega)
    obtain ⟨j, hj⟩ := best_dealF (rnW ws n) n (cnt_posF n)
    exact lawOf_FairRent n ws a_ws c_ws w h_ws hv _ (shL (j % 6)) _ (by show 3 ≤ 100000; omega) (fun a c w' _ h' => (rentLoop_any n (by omega) (by omega) ws hy j hj a c w' h').mono fun e w1 ⟨v, he, ho, hb⟩ => ⟨v, he, oj_oi ho, hb⟩) (fun a c w' _ hv h' => implFairRent_yes n (by omega) (by omega) ws hy j hj a c w' hv h')
  · exact lawOf_FairRent n ws a_ws c_ws w h_ws hv _ _ _ (by simp) (fun a c w' _ h' => specFairRent_no n ws h a c _ w' h') (fun a c w' _ _ h' => implFairRent_no n ws h a c w' h')
end Go.Proofs.YtncpnkcdjfohgaaDoor
