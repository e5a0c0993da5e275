import Derived.Test.YtfpadepeanejeaaMa9
namespace Go.Proofs.Ytfpadepeanejeaa
open Go.RowKit
set_option maxRecDepth 4000
def OutAreTastes (w : World) (r0 : Bool) (r1 : Bool) (e : Ending) (w' : World) : Prop := e = .returned (.tuple #[.bool r0, .bool r1]) ∧ Below w.heap.size w w'
set_option maxHeartbeats 3200000 in
theorem lawOf_AreTastes (n : Int) (ts : List (List Int)) (a_ts : Option Addr) (c_ts : Nat) (w : World) (h_ts : RdSS w w.heap.size a_ts ts) (r0 : Bool) (r1 : Bool)
    (hs : ∀ (a_ts' : Option Addr) (c_ts' : Nat) (w' : World), SmallSS ts → RdSS w' w'.heap.size a_ts' ts → Calls Try.prog 12 #[.int .i64 n, .slice a_ts' ts.length c_ts'] w' (OutAreTastes w' r0 r1))
    (hi : ∀ (a_ts' : Option Addr) (c_ts' : Nat) (w' : World), SmallSS ts → RdSS w' w'.heap.size a_ts' ts → Calls Try.prog 14 #[.int .i64 n, .slice a_ts' ts.length c_ts'] w' (OutAreTastes w' r0 r1)) :
    Calls Try.prog 3 #[.int .i64 n, .slice a_ts ts.length c_ts] w fun e w' => e = .returned (.bool true) ∧ Below w.heap.size w w' := by
  have HS := Lib.hid hs
  have HI := Lib.hid hi
  clear hs hi
  have hne0 : (r0 != r0) = false := by simp
  have hne1 : (r1 != r1) = false := by simp
  have hB0 : Below w.heap.size w w := Below.refl _ _
  go_enter Try.func3, Try.ntmps3
  go_wp2_with fail
  refine (szIntSS_any ts a_ts c_ts _ _ (by omega) (by omega) w h_ts).mono ?_
  rintro e w' ⟨l1, rfl, rfl, hl⟩
  rcases hl with hl | ⟨hl0_0, hl1_0, hsz_ts⟩
  · go_wp2_with fail
    go_ret
    exact ⟨rfl, Below.refl _ _⟩
  go_wp2_with fail
  refine (toIntSS_any ts a_ts c_ts _ _ h_ts (by omega) hsz_ts).mono ?_
  rintro e w1 ⟨v_tsp, rfl, o_tsp, hb⟩
  have hc := chg_below hb
  clear hb
  have z1 := hc.size
  replace h_ts := rdss_chg h_ts hc (by omega) (by omega)
  replace hB0 := below_chg hB0 hc (by omega) (by omega)
  clear hc
  obtain ⟨a_tsp, c_tsp, rfl, rd_tsp⟩ := oss_shape o_tsp
  go_wp2_with fail
  refine (HS.out a_tsp c_tsp _ hsz_ts (rdss_mono rd_tsp (by omega))).mono ?_
  rintro e w2 ⟨rfl, hb⟩
  have hc := chg_below hb
  clear hb
  clear rd_tsp
  have z2 := hc.size
  replace h_ts := rdss_chg h_ts hc (by omega) (by omega)
  replace o_tsp := oss_keep o_tsp hc (by omega) (by omega)
  replace hB0 := below_chg hB0 hc (by omega) (by omega)
  clear hc
  go_wp2_with fail
  clear o_tsp
  refine (toIntSS_any ts a_ts c_ts _ _ h_ts (by omega) hsz_ts).mono ?_
  rintro e w3 ⟨v_tsx, rfl, o_tsx, hb⟩
  have hc := chg_below hb
  clear hb
  have z3 := hc.size
  replace h_ts := rdss_chg h_ts hc (by omega) (by omega)
  replace hB0 := below_chg hB0 hc (by omega) (by omega)
  clear hc
  obtain ⟨a_tsx, c_tsx, rfl, rd_tsx⟩ := oss_shape o_tsx
  go_wp2_with fail
  refine (HI.out a_tsx c_tsx _ hsz_ts (rdss_mono rd_tsx (by omega))).mono ?_
  rintro e w4 ⟨rfl, hb⟩
  have hc := chg_below hb
  clear hb
  clear rd_tsx
  have z4 := hc.size
  replace h_ts := rdss_chg h_ts hc (by omega) (by omega)
  replace o_tsx := oss_keep o_tsx hc (by omega) (by omega)
  replace hB0 := below_chg hB0 hc (by omega) (by omega)
  clear hc
  go_wp2_with fail
  refine (toIntSS_any ts a_ts c_ts _ _ h_ts (by omega) hsz_ts).mono ?_
  rintro e w5 ⟨v_tsy, rfl, o_tsy, hb⟩
  have hc := chg_below hb
  clear hb
  have z5 := hc.size
  replace h_ts := rdss_chg h_ts hc (by omega) (by omega)
  replace o_tsx := oss_keep o_tsx hc (by omega) (by omega)
  replace hB0 := below_chg hB0 hc (by omega) (by omega)
  clear hc
  obtain ⟨a_tsy, c_tsy, rfl, -⟩ := oss_shape o_tsy
  go_wp2_with fail
  refine (eqIntSS_rd ts a_tsx a_tsy _ _ c_tsx c_tsy _ (oss_rds o_tsx) (oss_rds o_tsy)).mono ?_
  rintro e w6 ⟨rfl, hs⟩
  have hc := chg_same hs
  clear hs
  have z6 := hc.size
  replace h_ts := rdss_chg h_ts hc (by omega) (by omega)
  replace o_tsx := oss_keep o_tsx hc (by omega) (by omega)
  replace o_tsy := oss_keep o_tsy hc (by omega) (by omega)
  replace hB0 := below_chg hB0 hc (by omega) (by omega)
  clear hc
  go_wp2_with fail
  clear o_tsy
  go_ret
  exact ⟨rfl, hB0⟩
set_option maxHeartbeats 400000 in
theorem specAreTastes (n : Int) (ts : List (List Int)) (a : Option Addr) (cap B : Nat) (w : World) (h : RdSS w B a ts) :
    Calls Try.prog 12 #[.int .i64 n, .slice a ts.length cap] w (OutAreTastes w (tstB n ts) (decide (1 ≤ n ∧ n ≤ 8))) := by
  have H := Lib.hid (ckTastes_any n ts a cap B w h)
  clear h
  by_cases hn : 1 ≤ n ∧ n ≤ 8
  · rw [decide_eq_true hn]
    obtain ⟨n, rfl⟩ := Int.eq_ofNat_of_zero_le (show 0 ≤ n by omega)
    go_enter Try.func12, Try.ntmps12
    go_wp2_with fail
    refine (meSide_yes n (by omega) (by omega) _).mono ?_
    rintro e w1 ⟨rfl, rfl⟩
    go_wp2_with fail
    refine H.out.mono ?_
    rintro e w1 ⟨rfl, rfl⟩
    go_wp2_with fail
    go_returns
    exact ⟨rfl, Below.refl _ _⟩
  · rw [decide_eq_false hn]
    have e : tstB n ts = false := by simp [tstB]; omega
    rw [e]
    have HN := Lib.hid hn
    clear hn e H
    go_enter Try.func12, Try.ntmps12
    go_wp2_with fail
    refine (meSide_no n HN.out _).mono ?_
    rintro e w' ⟨rfl, rfl⟩
    go_wp2_with fail
    go_returns
    exact ⟨rfl, Below.refl _ _⟩
set_option maxHeartbeats 1600000 in
theorem implAreTastes_side (n : Nat) (h1 : 1 ≤ n) (h2 : n ≤ 8) (ts : List (List Int)) (a : Option Addr) (cap : Nat) (w : World) (h : RdSS w w.heap.size a ts) :
    Calls Try.prog 14 #[.int .i64 n, .slice a ts.length cap] w (OutAreTastes w (rowsB n 9 ts) true) := by
  have HRD := Lib.hid h
  clear h
  cases hy : rowsB n 9 ts
  · have HY := Lib.hid hy
    clear hy
    go_enter Try.func14, Try.ntmps14
    go_wp2_with fail
    refine (meshOf_yes n h1 h2 _).mono ?_
    rintro e w1 ⟨rfl, hb1⟩
    go_wp2_with fail
    refine (withTastes_no n (by omega) (by omega) ts a cap _ (rdss_mono (rdss_later HRD.out (balloc hb1 _)) (balloc hb1 _).size) HY.out).mono ?_
    rintro e w2 ⟨rfl, hb2⟩
    have hB2 := bnext (balloc hb1 (.cells #[.int .i64 n] 46)) hb2
    go_wp2_with (first | (with_reducible refine alloc_blk zeroC run_alloc_cake rfl rfl ?_) | ((with_reducible refine store_blk blkCake rfl _ _ rfl (w2.heap.size) (zeroC) (zeroC) ?_ ?_ (heap_alloc_new _ _) (zeroC_size) (zeroC_size) (zeroC_one) (w2.heap.size) (Nat.le_refl _) ?_); exact rfl; exact rfl; intro w4 hg4 hb4 _ _))
    go_returns
    exact ⟨rfl, (balloc hB2 _).trans (hb4.mono hB2.size)⟩
  · have HY := Lib.hid hy
    clear hy
    go_enter Try.func14, Try.ntmps14
    go_wp2_with fail
    refine (meshOf_yes n h1 h2 _).mono ?_
    rintro e w1 ⟨rfl, hb1⟩
    go_wp2_with fail
    refine (withTastes_yes n (by omega) (by omega) ts a cap _ (rdss_mono (rdss_later HRD.out (balloc hb1 _)) (balloc hb1 _).size) HY.out).mono ?_
    rintro e w2 ⟨rfl, hb2⟩
    have hB2 := bnext (balloc hb1 (.cells #[.int .i64 n] 46)) hb2
    go_wp2_with (first | (with_reducible refine alloc_blk zeroC run_alloc_cake rfl rfl ?_) | ((with_reducible refine store_blk blkCake rfl _ _ rfl (w2.heap.size) (cakeA n ts) (zeroC) ?_ ?_ (heap_alloc_new _ _) (zeroC_size) (cakeA_size _ _) (cakeA_one _ _) (w2.heap.size) (Nat.le_refl _) ?_); exact rfl; exact rfl; intro w4 hg4 hb4 _ _))
    go_returns
    exact ⟨rfl, (balloc hB2 _).trans (hb4.mono hB2.size)⟩
set_option maxHeartbeats 800000 in
theorem implAreTastes (n : Int) (ts : List (List Int)) (a : Option Addr) (cap : Nat) (w : World) (h : RdSS w w.heap.size a ts) :
    Calls Try.prog 14 #[.int .i64 n, .slice a ts.length cap] w (OutAreTastes w (tstB n ts) (decide (1 ≤ n ∧ n ≤ 8))) := by
  by_cases hn : 1 ≤ n ∧ n ≤ 8
  · rw [decide_eq_true hn]
    obtain ⟨n, rfl⟩ := Int.eq_ofNat_of_zero_le (show 0 ≤ n by omega)
    have e : tstB n ts = rowsB n 9 ts := by simp [tstB]; omega
    rw [e]
    exact implAreTastes_side n (by omega) (by omega) ts a cap w h
  · rw [decide_eq_false hn]
    have e : tstB n ts = false := by simp [tstB]; omega
    rw [e]
    have HN := Lib.hid hn
    clear hn e h
    go_enter Try.func14, Try.ntmps14
    go_wp2_with fail
    refine (meshOf_no n HN.out _).mono ?_
    rintro e w1 ⟨rfl, hb1⟩
    go_wp2_with fail
    go_returns
    exact ⟨rfl, balloc hb1 _⟩
theorem law_AreTastes (w : World) (n : Int) (_ : (Lit.int .i64 n).wf = true) (ts : List (List Int)) (a_ts : Option Addr) (c_ts : Nat) (h_ts : RdSS w w.heap.size a_ts ts) :
    Calls Try.prog 3 #[.int .i64 n, .slice a_ts ts.length c_ts] w fun e w' => e = .returned (.bool true) ∧ Below w.heap.size w w' :=
  lawOf_AreTastes n ts a_ts c_ts w h_ts  _ _  (fun a c w _ h => specAreTastes n ts a c _ w h) (fun a c w _ h => implAreTastes n ts a c w h)
end Go.Proofs.Ytfpadepeanejeaa
