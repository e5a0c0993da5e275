import Derived.Test.YtfpadepeanejeaaMb7
namespace Go.Proofs.Ytfpadepeanejeaa
open Go.RowKit
set_option maxRecDepth 4000
def OutFavouriteOf (w : World) (r0 : Int) (r1 : Bool) (e : Ending) (w' : World) : Prop := e = .returned (.tuple #[.int .i64 r0, .bool r1]) ∧ Below w.heap.size w w'
set_option maxHeartbeats 3200000 in
theorem lawOf_FavouriteOf (n : Int) (ts : List (List Int)) (a_ts : Option Addr) (c_ts : Nat) (person : Int) (i : Int) (w : World) (h_ts : RdSS w w.heap.size a_ts ts) (r0 : Int) (r1 : Bool)
    (hs : ∀ (a_ts' : Option Addr) (c_ts' : Nat) (w' : World), SmallSS ts → RdSS w' w'.heap.size a_ts' ts → Calls Try.prog 24 #[.int .i64 n, .slice a_ts' ts.length c_ts', .int .i64 person, .int .i64 i] w' (OutFavouriteOf w' r0 r1))
    (hi : ∀ (a_ts' : Option Addr) (c_ts' : Nat) (w' : World), SmallSS ts → RdSS w' w'.heap.size a_ts' ts → Calls Try.prog 25 #[.int .i64 n, .slice a_ts' ts.length c_ts', .int .i64 person, .int .i64 i] w' (OutFavouriteOf w' r0 r1)) :
    Calls Try.prog 6 #[.int .i64 n, .slice a_ts ts.length c_ts, .int .i64 person, .int .i64 i] w fun e w' => e = .returned (.bool true) ∧ Below w.heap.size w w' := by
  have HS := Lib.hid hs
  have HI := Lib.hid hi
  clear hs hi
  have hne0 : (r0 != r0) = false := by simp
  have hne1 : (r1 != r1) = false := by simp
  have hB0 : Below w.heap.size w w := Below.refl _ _
  go_enter Try.func6, Try.ntmps6
  go_wp2_with fail
  refine (szIntSS_any ts a_ts c_ts _ _ (by omega) (by omega) w h_ts).mono ?_
  rintro e w' ⟨l1, rfl, rfl, hl⟩
  rcases hl with hl | ⟨hl0_0, hl1_0, hsz_ts⟩
  · go_wp2_with fail
    go_ret
    exact ⟨rfl, Below.refl _ _⟩
  go_wp2_with fail
  refine (toIntSS_any ts a_ts c_ts _ _ h_ts (by omega) hsz_ts).mono ?_
  rintro e w1 ⟨v_tsp, rfl, o_tsp, hb⟩
  have hc := chg_below hb
  clear hb
  have z1 := hc.size
  replace h_ts := rdss_chg h_ts hc (by omega) (by omega)
  replace hB0 := below_chg hB0 hc (by omega) (by omega)
  clear hc
  obtain ⟨a_tsp, c_tsp, rfl, rd_tsp⟩ := oss_shape o_tsp
  go_wp2_with fail
  refine (HS.out a_tsp c_tsp _ hsz_ts (rdss_mono rd_tsp (by omega))).mono ?_
  rintro e w2 ⟨rfl, hb⟩
  have hc := chg_below hb
  clear hb
  clear rd_tsp
  have z2 := hc.size
  replace h_ts := rdss_chg h_ts hc (by omega) (by omega)
  replace o_tsp := oss_keep o_tsp hc (by omega) (by omega)
  replace hB0 := below_chg hB0 hc (by omega) (by omega)
  clear hc
  go_wp2_with fail
  clear o_tsp
  refine (toIntSS_any ts a_ts c_ts _ _ h_ts (by omega) hsz_ts).mono ?_
  rintro e w3 ⟨v_tsx, rfl, o_tsx, hb⟩
  have hc := chg_below hb
  clear hb
  have z3 := hc.size
  replace h_ts := rdss_chg h_ts hc (by omega) (by omega)
  replace hB0 := below_chg hB0 hc (by omega) (by omega)
  clear hc
  obtain ⟨a_tsx, c_tsx, rfl, rd_tsx⟩ := oss_shape o_tsx
  go_wp2_with fail
  refine (HI.out a_tsx c_tsx _ hsz_ts (rdss_mono rd_tsx (by omega))).mono ?_
  rintro e w4 ⟨rfl, hb⟩
  have hc := chg_below hb
  clear hb
  clear rd_tsx
  have z4 := hc.size
  replace h_ts := rdss_chg h_ts hc (by omega) (by omega)
  replace o_tsx := oss_keep o_tsx hc (by omega) (by omega)
  replace hB0 := below_chg hB0 hc (by omega) (by omega)
  clear hc
  go_wp2_with fail
  refine (toIntSS_any ts a_ts c_ts _ _ h_ts (by omega) hsz_ts).mono ?_
  rintro e w5 ⟨v_tsy, rfl, o_tsy, hb⟩
  have hc := chg_below hb
  clear hb
  have z5 := hc.size
  replace h_ts := rdss_chg h_ts hc (by omega) (by omega)
  replace o_tsx := oss_keep o_tsx hc (by omega) (by omega)
  replace hB0 := below_chg hB0 hc (by omega) (by omega)
  clear hc
  obtain ⟨a_tsy, c_tsy, rfl, -⟩ := oss_shape o_tsy
  go_wp2_with fail
  refine (eqIntSS_rd ts a_tsx a_tsy _ _ c_tsx c_tsy _ (oss_rds o_tsx) (oss_rds o_tsy)).mono ?_
  rintro e w6 ⟨rfl, hs⟩
  have hc := chg_same hs
  clear hs
  have z6 := hc.size
  replace h_ts := rdss_chg h_ts hc (by omega) (by omega)
  replace o_tsx := oss_keep o_tsx hc (by omega) (by omega)
  replace o_tsy := oss_keep o_tsy hc (by omega) (by omega)
  replace hB0 := below_chg hB0 hc (by omega) (by omega)
  clear hc
  go_wp2_with fail
  clear o_tsy
  go_ret
  exact ⟨rfl, hB0⟩
set_option maxHeartbeats 800000 in
theorem specFavouriteOf_yes (n p i : Nat) (h1 : 1 ≤ n) (h2 : n ≤ 8) (hp : p < 3) (hi : i < Pr.cnt n) (ts : List (List Int)) (hy : rowsB n 9 ts = true) (a : Option Addr) (cap : Nat) (w : World) (h : RdSS w w.heap.size a ts) :
    Calls Try.prog 24 #[.int .i64 n, .slice a ts.length cap, .int .i64 p, .int .i64 i] w (OutFavouriteOf w (favP (ts.getD p []) n i) true) := by
  have hT : tstB n ts = true := by simp [tstB, hy]; omega
  obtain ⟨hl3, hrow⟩ := rowsB_at hy
  obtain ⟨htl, hta⟩ := hrow p (by omega)
  have H := Lib.hid (ckTastes_any n ts a cap w.heap.size w h)
  have HT := Lib.hid hT
  have HTL := Lib.hid htl
  have HTA := Lib.hid hta
  obtain ⟨hm, b, off, hr⟩ := h
  obtain ⟨ha, hbl, ra, rc, c1, hrs⟩ := hr p (by omega)
  subst ha
  have HR := Lib.hid hrs
  have hpi : (p : Int) < (ts.length : Int) := by omega
  clear hr hrow hl3 hy hT hrs htl hta
  generalize ts.getD p [] = t at *
  go_enter Try.func24, Try.ntmps24
  go_wp2_with fail
  refine H.out.mono ?_
  rintro e w' ⟨rfl, rfl⟩
  rw [HT.out]
  go_wp2_with fail
  refine (ckPerson_yes p ⟨by omega, by omega⟩ _).mono ?_
  rintro e w' ⟨rfl, rfl⟩
  go_wp2_with fail
  refine (mePoint_yes n i h1 h2 hi _).mono ?_
  rintro e w' ⟨rfl, rfl⟩
  go_wp2_with fail
  refine (ckFavourite_any n i h1 h2 hi t HTL.out HTA.out ra rc w HR.out).mono ?_
  rintro e w2 ⟨rfl, hb⟩
  go_wp2_with fail
  go_returns
  exact ⟨rfl, hb⟩
set_option maxHeartbeats 800000 in
theorem specFavouriteOf_no (n p i : Int) (ts : List (List Int)) (hno : ¬ (okC n ts i ∧ okP p)) (a : Option Addr) (cap B : Nat) (w : World) (h : RdSS w B a ts) :
    Calls Try.prog 24 #[.int .i64 n, .slice a ts.length cap, .int .i64 p, .int .i64 i] w (OutFavouriteOf w 0 false) := by
  have H := Lib.hid (ckTastes_any n ts a cap B w h)
  have HNO := Lib.hid hno
  clear h hno
  go_enter Try.func24, Try.ntmps24
  go_wp2_with fail
  refine H.out.mono ?_
  rintro e w' ⟨rfl, rfl⟩
  cases hT : tstB n ts
  · clear hT
    go_wp2_with fail
    go_returns
    exact ⟨rfl, Below.refl _ _⟩
  · have HT := Lib.hid hT
    clear hT
    go_wp2_with fail
    by_cases hp : okP p
    · refine (ckPerson_yes p hp _).mono ?_
      rintro e w' ⟨rfl, rfl⟩
      have hi : ¬ Pr.okPt n i := fun hi => HNO.out ⟨⟨HT.out, hi⟩, hp⟩
      have HI := Lib.hid hi
      clear hi hp
      go_wp2_with fail
      refine (mePoint_no n i HI.out _).mono ?_
      rintro e w' ⟨rfl, rfl⟩
      go_wp2_with fail
      go_returns
      exact ⟨rfl, Below.refl _ _⟩
    · refine (ckPerson_no p hp _).mono ?_
      rintro e w' ⟨rfl, rfl⟩
      clear hp
      go_wp2_with fail
      go_returns
      exact ⟨rfl, Below.refl _ _⟩
set_option maxHeartbeats 1600000 in
theorem implFavouriteOf_yes (n p i : Nat) (h1 : 1 ≤ n) (h2 : n ≤ 8) (hp : p < 3) (hi : i < Pr.cnt n) (ts : List (List Int)) (hy : rowsB n 9 ts = true) (a : Option Addr) (cap : Nat) (w : World) (h : RdSS w w.heap.size a ts) :
    Calls Try.prog 25 #[.int .i64 n, .slice a ts.length cap, .int .i64 p, .int .i64 i] w (OutFavouriteOf w (favP (ts.getD p []) n i) true) := by
  have HC := Lib.hid (fun w h => cutOf_yes n h1 h2 i hi ts a cap w h hy)
  have HO := Lib.hid (fun w => favouriteAt_any n p i h1 h2 hp hi ts hy w)
  have HRD := Lib.hid h
  clear h hy
  go_enter Try.func25, Try.ntmps25
  go_wp2_with fail
  refine (HC.out _ HRD.out).mono ?_
  rintro e w1 ⟨rfl, hb1⟩
  obtain ⟨hA1, hS1⟩ := two_heap w1 (.cells zeroC 53) (.cells zeroS 57)
  have hAB1 := balloc (balloc hb1 (.cells zeroC 53)) (.cells zeroS 57)
  have hAz1 : ((w1.alloc (.cells zeroC 53)).alloc (.cells zeroS 57)).heap.size = w1.heap.size + 2 := by simp
  have hz1 := hb1.size
  go_wp2_with (first | (with_reducible refine alloc_blk zeroC run_alloc_cake rfl rfl ?_) | ((with_reducible refine alloc_blk zeroS run_alloc_spot rfl rfl ?_); simp only [World.size_alloc, Act.put, List.setIfInBounds_toArray, List.set_cons_zero, List.set_cons_succ]) | ((with_reducible refine store_blk blkCake rfl _ _ rfl w1.heap.size (cakeA n ts) zeroC ?_ ?_ hA1 zeroC_size (cakeA_size _ _) (cakeA_one _ _) w1.heap.size (Nat.le_refl _) ?_); exact rfl; exact rfl; intro w2 hg2 hb2 hk2 hz2; have hs2 := (hk2 (w1.heap.size + 1) (by omega)).trans hS1) | ((with_reducible refine store_blk blkSpot rfl _ _ rfl (w1.heap.size + 1) (spA n i) zeroS ?_ ?_ hs2 zeroS_size (spA_size _ _) (spA_one _ _) (w1.heap.size + 1) (Nat.le_refl _) ?_); exact rfl; exact rfl; intro w3 hg3 hb3 hk3 hz3; have hc3 := (hk3 w1.heap.size (by omega)).trans hg2; have hB3 : Below w.heap.size w w3 := (hAB1.trans (hb2.mono hz1)).trans (hb3.mono (by omega)); have hz3' : w3.heap.size = w1.heap.size + 2 := (by rw [hz3, hz2, hAz1])))
  refine (isPerson_yes p ⟨by omega, by omega⟩ _).mono ?_
  rintro e w' ⟨rfl, rfl⟩
  go_wp2_with (first | ((with_reducible refine load_blk blkCake ?_ _ rfl (w1.heap.size) ?_ (cakeA n ts) hc3 (cakeA_size _ _) ?_); exact rfl; exact rfl; simp only [Act.put, List.setIfInBounds_toArray, List.set_cons_zero, List.set_cons_succ]) | ((with_reducible refine load_blk blkSpot ?_ _ rfl (w1.heap.size + 1) ?_ (spA n i) hg3 (spA_size _ _) ?_); exact rfl; exact rfl; simp only [Act.put, List.setIfInBounds_toArray, List.set_cons_zero, List.set_cons_succ]))
  refine (HO.out _).mono ?_
  rintro e w5 ⟨rfl, hb5⟩
  have hB5 := bnext hB3 hb5
  go_wp2_with fail
  go_returns
  exact ⟨rfl, hB5⟩
set_option maxHeartbeats 1600000 in
theorem implFavouriteOf_no (n p i : Int) (ts : List (List Int)) (hno : ¬ (okC n ts i ∧ okP p)) (a : Option Addr) (cap : Nat) (w : World) (h : RdSS w w.heap.size a ts) :
    Calls Try.prog 25 #[.int .i64 n, .slice a ts.length cap, .int .i64 p, .int .i64 i] w (OutFavouriteOf w 0 false) := by
  have HRD := Lib.hid h
  clear h
  by_cases hc : okC n ts i
  · have hp : ¬ okP p := fun hp => hno ⟨hc, hp⟩
    obtain ⟨n, i, rfl, rfl, h1, h2, hi, hy⟩ := okC_yes hc
    have HC := Lib.hid (fun w h => cutOf_yes n h1 h2 i hi ts a cap w h hy)
    have HP := Lib.hid hp
    clear hno hc hp hy
    go_enter Try.func25, Try.ntmps25
    go_wp2_with fail
    refine (HC.out _ HRD.out).mono ?_
    rintro e w1 ⟨rfl, hb1⟩
    obtain ⟨hA1, hS1⟩ := two_heap w1 (.cells zeroC 53) (.cells zeroS 57)
    have hAB1 := balloc (balloc hb1 (.cells zeroC 53)) (.cells zeroS 57)
    have hAz1 : ((w1.alloc (.cells zeroC 53)).alloc (.cells zeroS 57)).heap.size = w1.heap.size + 2 := by simp
    have hz1 := hb1.size
    go_wp2_with (first | (with_reducible refine alloc_blk zeroC run_alloc_cake rfl rfl ?_) | ((with_reducible refine alloc_blk zeroS run_alloc_spot rfl rfl ?_); simp only [World.size_alloc, Act.put, List.setIfInBounds_toArray, List.set_cons_zero, List.set_cons_succ]) | ((with_reducible refine store_blk blkCake rfl _ _ rfl w1.heap.size (cakeA n ts) zeroC ?_ ?_ hA1 zeroC_size (cakeA_size _ _) (cakeA_one _ _) w1.heap.size (Nat.le_refl _) ?_); exact rfl; exact rfl; intro w2 hg2 hb2 hk2 hz2; have hs2 := (hk2 (w1.heap.size + 1) (by omega)).trans hS1) | ((with_reducible refine store_blk blkSpot rfl _ _ rfl (w1.heap.size + 1) (spA n i) zeroS ?_ ?_ hs2 zeroS_size (spA_size _ _) (spA_one _ _) (w1.heap.size + 1) (Nat.le_refl _) ?_); exact rfl; exact rfl; intro w3 hg3 hb3 hk3 hz3; have hc3 := (hk3 w1.heap.size (by omega)).trans hg2; have hB3 : Below w.heap.size w w3 := (hAB1.trans (hb2.mono hz1)).trans (hb3.mono (by omega)); have hz3' : w3.heap.size = w1.heap.size + 2 := (by rw [hz3, hz2, hAz1])))
    refine (isPerson_no p HP.out _).mono ?_
    rintro e w' ⟨rfl, rfl⟩
    go_wp2_with fail
    go_returns
    exact ⟨rfl, hB3⟩
  · have HC := Lib.hid (fun w h => cutOf_fail n i ts hc a cap w h)
    clear hno hc
    go_enter Try.func25, Try.ntmps25
    go_wp2_with fail
    refine (HC.out _ HRD.out).mono ?_
    rintro e w1 ⟨rfl, hb1⟩
    obtain ⟨hA1, hS1⟩ := two_heap w1 (.cells zeroC 53) (.cells zeroS 57)
    have hAB1 := balloc (balloc hb1 (.cells zeroC 53)) (.cells zeroS 57)
    have hAz1 : ((w1.alloc (.cells zeroC 53)).alloc (.cells zeroS 57)).heap.size = w1.heap.size + 2 := by simp
    have hz1 := hb1.size
    go_wp2_with (first | (with_reducible refine alloc_blk zeroC run_alloc_cake rfl rfl ?_) | ((with_reducible refine alloc_blk zeroS run_alloc_spot rfl rfl ?_); simp only [World.size_alloc, Act.put, List.setIfInBounds_toArray, List.set_cons_zero, List.set_cons_succ]) | ((with_reducible refine store_blk blkCake rfl _ _ rfl w1.heap.size (zeroC) zeroC ?_ ?_ hA1 zeroC_size (zeroC_size) (zeroC_one) w1.heap.size (Nat.le_refl _) ?_); exact rfl; exact rfl; intro w2 hg2 hb2 hk2 hz2; have hs2 := (hk2 (w1.heap.size + 1) (by omega)).trans hS1) | ((with_reducible refine store_blk blkSpot rfl _ _ rfl (w1.heap.size + 1) (zeroS) zeroS ?_ ?_ hs2 zeroS_size (zeroS_size) (zeroS_one) (w1.heap.size + 1) (Nat.le_refl _) ?_); exact rfl; exact rfl; intro w3 hg3 hb3 hk3 hz3; have hc3 := (hk3 w1.heap.size (by omega)).trans hg2; have hB3 : Below w.heap.size w w3 := (hAB1.trans (hb2.mono hz1)).trans (hb3.mono (by omega)); have hz3' : w3.heap.size = w1.heap.size + 2 := (by rw [hz3, hz2, hAz1])))
    go_returns
    exact ⟨rfl, hB3⟩
theorem law_FavouriteOf (w : World) (n : Int) (_ : (Lit.int .i64 n).wf = true) (ts : List (List Int)) (a_ts : Option Addr) (c_ts : Nat) (h_ts : RdSS w w.heap.size a_ts ts) (person : Int) (_ : (Lit.int .i64 person).wf = true) (i : Int) (_ : (Lit.int .i64 i).wf = true) :
    Calls Try.prog 6 #[.int .i64 n, .slice a_ts ts.length c_ts, .int .i64 person, .int .i64 i] w fun e w' => e = .returned (.bool true) ∧ Below w.heap.size w w' := by
  by_cases h : okC n ts i ∧ okP person
  · obtain ⟨hc, hp⟩ := h
    obtain ⟨n, i, rfl, rfl, h1, h2, hi, hy⟩ := okC_yes hc
    obtain ⟨person, rfl⟩ := Int.eq_ofNat_of_zero_le hp.1
    have hp3 : person < 3 := by have := hp.2; omega
    exact lawOf_FavouriteOf n ts a_ts c_ts person i w h_ts _ _ (fun a c w' _ h => specFavouriteOf_yes n person i h1 h2 hp3 hi ts hy a c w' h) (fun a c w' _ h => implFavouriteOf_yes n person i h1 h2 hp3 hi ts hy a c w' h)
  · exact lawOf_FavouriteOf n ts a_ts c_ts person i w h_ts _ _ (fun a c w' _ h' => specFavouriteOf_no n person i ts h a c _ w' h') (fun a c w' _ h' => implFavouriteOf_no n person i ts h a c w' h')
end Go.Proofs.Ytfpadepeanejeaa
