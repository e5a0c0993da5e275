import Derived.Test.YtncpnkcdjfohgaaDoorMg1
import Derived.Test.YtncpnkcdjfohgaaDoorMg5
import Derived.Test.YtncpnkcdjfohgaaDoorMc1
namespace Go.Proofs.YtncpnkcdjfohgaaDoor
open Go.RowKit
set_option maxRecDepth 4000
def OutLeastEnvy (w : World) (r0 : Int) (r1 : Bool) (e : Ending) (w' : World) : Prop := e = .returned (.tuple #[.int .i64 r0, .bool r1]) ∧ Below w.heap.size w w'
set_option maxHeartbeats 3200000 in
theorem lawOf_LeastEnvy (n : Int) (ts : List (List Int)) (a_ts : Option Addr) (c_ts : Nat) (w : World) (h_ts : RdSS w w.heap.size a_ts ts) (hvar : ShV w) (r0 : Int) (r1 : Bool)
    (hs : ∀ (a_ts' : Option Addr) (c_ts' : Nat) (w' : World), SmallSS ts → RdSS w' w'.heap.size a_ts' ts → Calls Tryd.prog 9 #[.int .i64 n, .slice a_ts' ts.length c_ts'] w' (OutLeastEnvy w' r0 r1))
    (hi : ∀ (a_ts' : Option Addr) (c_ts' : Nat) (w' : World), SmallSS ts → ShV w' → RdSS w' w'.heap.size a_ts' ts → Calls Tryd.prog 11 #[.int .i64 n, .slice a_ts' ts.length c_ts'] w' (OutLeastEnvy w' r0 r1)) :
    Calls Tryd.prog 3 #[.int .i64 n, .slice a_ts ts.length c_ts] w fun e w' => e = .returned (.bool true) ∧ Below w.heap.size w w' := by
  have HS := Lib.hid hs
  have HI := Lib.hid hi
  clear hs hi
  have HV := Lib.hid hvar
  clear hvar
  have hne0 : (r0 != r0) = false := by simp
  have hne1 : (r1 != r1) = false := by simp
  have hB0 : Below w.heap.size w w := Below.refl _ _
  go_enter Tryd.func3, Tryd.ntmps3
  go_wp2_with fail
  refine (szIntSS_any ts a_ts c_ts _ 1048576 (by omega) (by omega) w h_ts).mono ?_
  rintro e w' ⟨l1, rfl, rfl, hl⟩
  rcases hl with hl | ⟨hl0_0, hl1_0, hsz_ts⟩
  · go_wp2_with fail
    go_ret
    exact ⟨rfl, Below.refl _ _⟩
  go_wp2_with fail
  refine (toIntSS_any ts a_ts c_ts _ _ h_ts (by omega) hsz_ts).mono ?_
  rintro e w1 ⟨v_tsp, rfl, o_tsp, hb⟩
  have hc := chg_below hb
  clear hb
  have z1 := hc.size
  replace h_ts := rdss_chg h_ts hc (by omega) (by omega)
  replace hB0 := below_chg hB0 hc (by omega) (by omega)
  clear hc
  obtain ⟨a_tsp, c_tsp, rfl, rd_tsp⟩ := oss_shape o_tsp
  go_wp2_with fail
  refine (HS.out a_tsp c_tsp _ hsz_ts (rdss_mono rd_tsp (by omega))).mono ?_
  rintro e w2 ⟨rfl, hb⟩
  have hc := chg_below hb
  clear hb
  clear rd_tsp
  have z2 := hc.size
  replace h_ts := rdss_chg h_ts hc (by omega) (by omega)
  replace o_tsp := oss_keep o_tsp hc (by omega) (by omega)
  replace hB0 := below_chg hB0 hc (by omega) (by omega)
  clear hc
  go_wp2_with fail
  clear o_tsp
  refine (toIntSS_any ts a_ts c_ts _ _ h_ts (by omega) hsz_ts).mono ?_
  rintro e w3 ⟨v_tsx, rfl, o_tsx, hb⟩
  have hc := chg_below hb
  clear hb
  have z3 := hc.size
  replace h_ts := rdss_chg h_ts hc (by omega) (by omega)
  replace hB0 := below_chg hB0 hc (by omega) (by omega)
  clear hc
  obtain ⟨a_tsx, c_tsx, rfl, rd_tsx⟩ := oss_shape o_tsx
  go_wp2_with fail
  refine (HI.out a_tsx c_tsx _ hsz_ts (ShV_later HV.out hB0) (rdss_mono rd_tsx (by omega))).mono ?_
  rintro e w4 ⟨rfl, hb⟩
  have hc := chg_below hb
  clear hb
  clear rd_tsx
  have z4 := hc.size
  replace h_ts := rdss_chg h_ts hc (by omega) (by omega)
  replace o_tsx := oss_keep o_tsx hc (by omega) (by omega)
  replace hB0 := below_chg hB0 hc (by omega) (by omega)
  clear hc
  go_wp2_with fail
  refine (toIntSS_any ts a_ts c_ts _ _ h_ts (by omega) hsz_ts).mono ?_
  rintro e w5 ⟨v_tsy, rfl, o_tsy, hb⟩
  have hc := chg_below hb
  clear hb
  have z5 := hc.size
  replace h_ts := rdss_chg h_ts hc (by omega) (by omega)
  replace o_tsx := oss_keep o_tsx hc (by omega) (by omega)
  replace hB0 := below_chg hB0 hc (by omega) (by omega)
  clear hc
  obtain ⟨a_tsy, c_tsy, rfl, -⟩ := oss_shape o_tsy
  go_wp2_with fail
  refine (eqIntSS_rd ts a_tsx a_tsy _ _ c_tsx c_tsy _ (oss_rds o_tsx) (oss_rds o_tsy)).mono ?_
  rintro e w6 ⟨rfl, hs⟩
  have hc := chg_same hs
  clear hs
  have z6 := hc.size
  replace h_ts := rdss_chg h_ts hc (by omega) (by omega)
  replace o_tsx := oss_keep o_tsx hc (by omega) (by omega)
  replace o_tsy := oss_keep o_tsy hc (by omega) (by omega)
  replace hB0 := below_chg hB0 hc (by omega) (by omega)
  clear hc
  go_wp2_with fail
  clear o_tsy
  go_ret
  exact ⟨rfl, hB0⟩
set_option maxHeartbeats 800000 in
theorem specLeastEnvy_yes (n : Nat) (h1 : 1 ≤ n) (h2 : n ≤ 8) (ts : List (List Int)) (hy : rowsB n 9 ts = true) (j : Nat) (hj : IsB (dlF (wpt ts n)) (6 * Pr.cnt n) j) (a : Option Addr) (cap : Nat) (w : World) (h : RdSS w w.heap.size a ts) :
    Calls Tryd.prog 9 #[.int .i64 n, .slice a ts.length cap] w (OutLeastEnvy w (-(dlF (wpt ts n) j)) true) := by
  have HT := Lib.hid (ckTastes_yes' n h1 h2 ts hy a cap _ w h)
  have HB := Lib.hid (ckBest_any n h1 h2 ts hy j hj a cap w h)
  clear h hy hj
  generalize -(dlF (wpt ts n) j) = e at *
  go_enter Tryd.func9, Tryd.ntmps9
  go_wp2_with fail
  refine HT.out.mono ?_
  rintro e' w' ⟨rfl, rfl⟩
  go_wp2_with fail
  refine HB.out.mono ?_
  rintro e' w1 ⟨v, rfl, -, hb1⟩
  go_wp2_with fail
  go_returns
  exact ⟨rfl, hb1⟩
set_option maxHeartbeats 800000 in
theorem specLeastEnvy_no (n : Int) (ts : List (List Int)) (hno : tstB n ts = false) (a : Option Addr) (cap B : Nat) (w : World) (h : RdSS w B a ts) :
    Calls Tryd.prog 9 #[.int .i64 n, .slice a ts.length cap] w (OutLeastEnvy w 0 false) := by
  have HT := Lib.hid (ckTastes_any n ts a cap B w h)
  rw [hno] at HT
  clear h hno
  go_enter Tryd.func9, Tryd.ntmps9
  go_wp2_with fail
  refine HT.out.mono ?_
  rintro e w' ⟨rfl, rfl⟩
  go_wp2_with fail
  go_returns
  exact ⟨rfl, Below.refl _ _⟩
set_option maxHeartbeats 800000 in
theorem implLeastEnvy_yes (n : Nat) (h1 : 1 ≤ n) (h2 : n ≤ 8) (ts : List (List Int)) (hy : rowsB n 9 ts = true) (j : Nat) (hj : IsB (dlF (wpt ts n)) (6 * Pr.cnt n) j) (a : Option Addr) (cap : Nat) (w : World) (hv : ShV w) (h : RdSS w w.heap.size a ts) :
    Calls Tryd.prog 11 #[.int .i64 n, .slice a ts.length cap] w (OutLeastEnvy w (-(dlF (wpt ts n) j)) true) := by
  have HC := Lib.hid (cakeOf_yes n h1 h2 ts a cap w h hy)
  have HL := Lib.hid (fun w hv => cakeLeast_any n h1 h2 ts hy j hj w hv)
  have HV := Lib.hid hv
  clear h hy hj hv
  generalize -(dlF (wpt ts n) j) = e at *
  have HFD := Lib.hid (run_field_deal (j / 6) (j % 6) e)
  generalize dA (j / 6) (j % 6) e = da at *
  go_enter Tryd.func11, Tryd.ntmps11
  go_wp2_with fail
  refine (HC.out).mono ?_
  rintro e w1 ⟨rfl, hb1⟩
  have hz1 := hb1.size
  go_wp2_with (first | (with_reducible refine alloc_blk zeroC run_alloc_cake rfl rfl ?_) | ((with_reducible refine store_blk blkCake rfl _ _ rfl w1.heap.size (cakeA n ts) zeroC ?_ ?_ (heap_alloc_new _ _) zeroC_size (cakeA_size _ _) (cakeA_one _ _) w1.heap.size (Nat.le_refl _) ?_); exact rfl; exact rfl; intro w2 hg2 hb2 hk2 hz2; have hB2 : Below w.heap.size w w2 := (balloc hb1 _).trans (hb2.mono hz1)) | ((with_reducible refine load_blk blkCake ?_ _ rfl (w1.heap.size) ?_ (cakeA n ts) hg2 (cakeA_size _ _) ?_); exact rfl; exact rfl; simp only [Act.put, List.setIfInBounds_toArray, List.set_cons_zero, List.set_cons_succ]))
  refine (HL.out w2 (ShV_later HV.out hB2)).mono ?_
  rintro e' w3 ⟨rfl, hb3⟩
  have hB3 := bnext hB2 hb3
  go_wp2_with ((with_reducible refine field_deal HFD.out rfl _ rfl ?_ ?_); exact rfl; simp only [Act.put, List.setIfInBounds_toArray, List.set_cons_zero, List.set_cons_succ])
  go_returns
  exact ⟨rfl, hB3⟩
set_option maxHeartbeats 800000 in
theorem implLeastEnvy_no (n : Int) (ts : List (List Int)) (hno : tstB n ts = false) (a : Option Addr) (cap : Nat) (w : World) (h : RdSS w w.heap.size a ts) :
    Calls Tryd.prog 11 #[.int .i64 n, .slice a ts.length cap] w (OutLeastEnvy w 0 false) := by
  have HC := Lib.hid (cakeOf_fail n ts hno a cap w h)
  clear h hno
  go_enter Tryd.func11, Tryd.ntmps11
  go_wp2_with fail
  refine (HC.out).mono ?_
  rintro e w1 ⟨rfl, hb1⟩
  have hz1 := hb1.size
  go_wp2_with (first | (with_reducible refine alloc_blk zeroC run_alloc_cake rfl rfl ?_) | ((with_reducible refine store_blk blkCake rfl _ _ rfl w1.heap.size (zeroC) zeroC ?_ ?_ (heap_alloc_new _ _) zeroC_size (zeroC_size) (zeroC_one) w1.heap.size (Nat.le_refl _) ?_); exact rfl; exact rfl; intro w2 hg2 hb2 hk2 hz2; have hB2 : Below w.heap.size w w2 := (balloc hb1 _).trans (hb2.mono hz1)))
  go_returns
  exact ⟨rfl, hB2⟩
theorem cnt_pos (n : Nat) : 1 ≤ Pr.cnt n := by
  have := Pr.T_succ n
  unfold Pr.cnt
  omega
theorem best_deal (W : Nat → Nat → Nat → Int) (n : Nat) (hc : 1 ≤ Pr.cnt n) : ∃ j, IsB (dlF W) (6 * Pr.cnt n) j := by
  obtain ⟨j, h⟩ := isB_exists (dlF W) (6 * Pr.cnt n - 1)
  rw [show 6 * Pr.cnt n - 1 + 1 = 6 * Pr.cnt n by omega] at h
  exact ⟨j, h⟩
theorem law_LeastEnvy (w : World) (n : Int) (_ : (Lit.int .i64 n).wf = true) (ts : List (List Int)) (a_ts : Option Addr) (c_ts : Nat) (h_ts : RdSS w w.heap.size a_ts ts) (hv : ShV w) :
    Calls Tryd.prog 3 #[.int .i64 n, .slice a_ts ts.length c_ts] w fun e w' => e = .returned (.bool true) ∧ Below w.heap.size w w' := by
  cases h : tstB n ts
  · exact lawOf_LeastEnvy n ts a_ts c_ts w h_ts hv _ _ (fun a c w' _ h' => specLeastEnvy_no n ts h a c _ w' h') (fun a c w' _ _ h' => implLeastEnvy_no n ts h a c w' h')
  · obtain ⟨n, rfl, h1, h2, hy⟩ := tstB_yes h
    obtain ⟨j, hj⟩ := best_deal (wpt ts n) n (by have := (Pr.cnt_le n (by omega)); exact cnt_pos n)
    exact lawOf_LeastEnvy n ts a_ts c_ts w h_ts hv _ _ (fun a c w' _ h' => specLeastEnvy_yes n h1 h2 ts hy j hj a c w' h') (fun a c w' _ hv h' => implLeastEnvy_yes n h1 h2 ts hy j hj a c w' hv h')
end Go.Proofs.YtncpnkcdjfohgaaDoor
