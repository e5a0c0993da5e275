import Derived.Test.YtjohjiknngagiaaK27
namespace Go.Proofs.Ytjohjiknngagiaa
open Go.RowKit
set_option maxRecDepth 4000
def OutColourStableWith (w : World) (r0 : List Int) (r1 : Bool) (e : Ending) (w' : World) : Prop := ∃ v0, e = .returned (.tuple #[v0, .bool r1]) ∧ OI w' w.heap.size w'.heap.size v0 r0 ∧ Below w.heap.size w w'
set_option maxHeartbeats 3200000 in
theorem lawOf_ColourStableWith (n : Int) (k : Int) (c : Int) (w : World) (r0 : List Int) (r1 : Bool) (hL0 : r0.length ≤ 100000)
    (hs : ∀  (w' : World), Calls Try.prog 12 #[.int .i64 n, .int .i64 k, .int .i64 c] w' (OutColourStableWith w' r0 r1))
    (hi : ∀  (w' : World), Calls Try.prog 13 #[.int .i64 n, .int .i64 k, .int .i64 c] w' (OutColourStableWith w' r0 r1)) :
    Calls Try.prog 4 #[.int .i64 n, .int .i64 k, .int .i64 c] w fun e w' => e = .returned (.bool true) ∧ Below w.heap.size w w' := by
  have HS := Lib.hid hs
  have HI := Lib.hid hi
  clear hs hi
  have hne1 : (r1 != r1) = false := by simp
  have hB0 : Below w.heap.size w w := Below.refl _ _
  go_enter Try.func4, Try.ntmps4
  go_wp2_with fail
  refine (HS.out  _  ).mono ?_
  rintro e w1 ⟨vs0, rfl, os0, hb⟩
  have hc := chg_below hb
  clear hb
  have z1 := hc.size
  replace hB0 := below_chg hB0 hc (by omega) (by omega)
  clear hc
  obtain ⟨as0, cs0, -, rfl, -⟩ := oi_shape os0
  go_wp2_with fail
  refine (HI.out  _  ).mono ?_
  rintro e w2 ⟨vg0, rfl, og0, hb⟩
  have hc := chg_below hb
  clear hb
  have z2 := hc.size
  replace os0 := oi_keep os0 hc (by omega) (by omega)
  replace hB0 := below_chg hB0 hc (by omega) (by omega)
  clear hc
  obtain ⟨ag0, cg0, -, rfl, -⟩ := oi_shape og0
  go_wp2_with fail
  refine (eqIntS_rd r0 ag0 as0 _ _ cg0 cs0 _ (oi_rds og0) (oi_rds os0)).mono ?_
  rintro e w3 ⟨rfl, hs⟩
  have hc := chg_same hs
  clear hs
  have z3 := hc.size
  replace os0 := oi_keep os0 hc (by omega) (by omega)
  replace og0 := oi_keep og0 hc (by omega) (by omega)
  replace hB0 := below_chg hB0 hc (by omega) (by omega)
  clear hc
  go_wp2_with fail
  refine (markIntS_chg r0 ag0 _ _ cg0 1 _ og0 (by omega) (by omega)).mono ?_
  rintro e w4 ⟨rfl, om0, hc⟩
  have hlm0 : (mkd 1 r0.length r0).length = r0.length := mkd_len _ _ _ (Nat.le_refl _)
  have HLM0 := Lib.hid hlm0
  clear hlm0
  clear og0
  have z4 := hc.size
  replace os0 := oi_keep os0 hc (by omega) (by omega)
  replace hB0 := below_chg hB0 hc (by omega) (by omega)
  clear hc
  go_wp2_with fail
  refine (heldIntS_rd r0 1 ag0 _ _ cg0 _ HLM0.out (oi_rds2 om0) (by omega) (by omega)).mono ?_
  rintro e w' ⟨rfl, rfl⟩
  go_wp2_with fail
  refine (HI.out  _  ).mono ?_
  rintro e w5 ⟨vh0, rfl, oh0, hb⟩
  have hc := chg_below hb
  clear hb
  have z5 := hc.size
  replace os0 := oi_keep os0 hc (by omega) (by omega)
  replace om0 := oi_keep om0 hc (by omega) (by omega)
  replace hB0 := below_chg hB0 hc (by omega) (by omega)
  clear hc
  obtain ⟨ah0, ch0, -, rfl, -⟩ := oi_shape oh0
  go_wp2_with fail
  refine (eqIntS_rd r0 ah0 as0 _ _ ch0 cs0 _ (oi_rds oh0) (oi_rds os0)).mono ?_
  rintro e w6 ⟨rfl, hs⟩
  have hc := chg_same hs
  clear hs
  have z6 := hc.size
  replace os0 := oi_keep os0 hc (by omega) (by omega)
  replace om0 := oi_keep om0 hc (by omega) (by omega)
  replace oh0 := oi_keep oh0 hc (by omega) (by omega)
  replace hB0 := below_chg hB0 hc (by omega) (by omega)
  clear hc
  go_wp2_with fail
  refine (heldIntS_rd r0 1 ag0 _ _ cg0 _ HLM0.out (oi_rds2 om0) (by omega) (by omega)).mono ?_
  rintro e w' ⟨rfl, rfl⟩
  go_wp2_with fail
  go_ret
  exact ⟨rfl, hB0⟩
set_option maxHeartbeats 800000 in
theorem specColourStableWith_no (n k c : Int) (h : ¬ ((1 ≤ n ∧ n ≤ 8 ∧ 1 ≤ k ∧ k ≤ n) ∧ n ≤ 7 ∧ 1 ≤ c ∧ c ≤ 8)) (w : World) :
    Calls Try.prog 12 #[.int .i64 n, .int .i64 k, .int .i64 c] w (OutColourStableWith w [] false) := by
  by_cases hg : 1 ≤ n ∧ n ≤ 8 ∧ 1 ≤ k ∧ k ≤ n
  · have HG := Lib.hid (knGiven_yes n k hg w)
    by_cases hn : n ≤ 7
    · have HI := Lib.hid (l1In_no c 1 8 (fun hc => h ⟨hg, hn, hc⟩))
      clear h hg
      go_enter Try.func12, Try.ntmps12
      go_wp2_with fail
      refine HG.out.mono ?_
      rintro e w' ⟨rfl, rfl⟩
      go_wp2_with fail
      refine (HI.out _).mono ?_
      rintro e w' ⟨rfl, rfl⟩
      go_wp2_with fail
      go_returns
      exact ⟨_, rfl, oi_nil _ _ _, Below.refl _ _⟩
    · have hn2 : 7 < n := by omega
      clear h hg hn
      go_enter Try.func12, Try.ntmps12
      go_wp2_with fail
      refine HG.out.mono ?_
      rintro e w' ⟨rfl, rfl⟩
      go_wp2_with fail
      go_returns
      exact ⟨_, rfl, oi_nil _ _ _, Below.refl _ _⟩
  · have HG := Lib.hid (knGiven_no n k hg w)
    clear h hg
    go_enter Try.func12, Try.ntmps12
    go_wp2_with fail
    refine HG.out.mono ?_
    rintro e w' ⟨rfl, rfl⟩
    go_wp2_with fail
    go_returns
    exact ⟨_, rfl, oi_nil _ _ _, Below.refl _ _⟩
set_option maxHeartbeats 1600000 in
theorem specColourStableWith_yes (n k c : Nat) (hg : 1 ≤ (n : Int) ∧ (n : Int) ≤ 8 ∧ 1 ≤ (k : Int) ∧ (k : Int) ≤ n) (hn : n ≤ 7) (h1 : 1 ≤ c) (h8 : c ≤ 8) (w : World) :
    Calls Try.prog 12 #[.int .i64 n, .int .i64 k, .int .i64 c] w (OutColourStableWith w (outL (cwV (stabL n (kS n k)) c)) (cwV (stabL n (kS n k)) c).isSome) := by
  have HG := Lib.hid (knGiven_yes n k hg w)
  have HI := Lib.hid (l1In_yes c 1 8 (by omega))
  have HS : Hid (∀ w : World, Calls Try.prog 37 #[.int .i64 n, .int .i64 k] w fun e w' => ∃ v, e = .returned v ∧ OI w' w.heap.size w'.heap.size v (toI (stabL n (kS n k))) ∧ Below w.heap.size w w') := Lib.hid (knStable8 n k (by omega) (by omega) (by omega))
  have hls : ∀ s ∈ stabL n (kS n k), s < 256 := fun s hs => (kS_lt n k (by omega) s (List.mem_filter.1 hs).1).2
  have hlen : (stabL n (kS n k)).length ≤ 256 := Nat.le_trans (List.length_filter_le _ _) (kS_len8 n k (by omega))
  have hni : (n : Int) ≤ 7 := by omega
  clear hg
  generalize stabL n (kS n k) = l at *
  have htl := toI_len l
  have HV : Hid (impS (apS l) l.length c l.length [] = cwV l c) := Lib.hid rfl
  have HK := Lib.hid (fun a2 c2 w' (h2 : RdS w' w'.heap.size a2 (toI l)) => knColour_any l hls hlen c h8 a2 c2 w'.heap.size l.length [] 0 w'.heap.size none 0 w' can_nil (by simp) (fun _ => ⟨rfl, rfl⟩) h2 (Nat.le_refl _) (oi_nil _ _ _) (Nat.le_refl _))
  rw [HV.out] at HK
  clear hls
  go_enter Try.func12, Try.ntmps12
  go_wp2_with fail
  refine HG.out.mono ?_
  rintro e w' ⟨rfl, rfl⟩
  go_wp2_with fail
  refine (HI.out _).mono ?_
  rintro e w' ⟨rfl, rfl⟩
  go_wp2_with fail
  refine (HS.out _).mono ?_
  rintro e w1 ⟨v, rfl, ho, hb1⟩
  obtain ⟨va, vc, -, rfl, -, hrs⟩ := oi_shape ho
  have HCL := Lib.hid (HK.out va vc w1 hrs)
  rw [htl]
  have hz1 := hb1.size
  clear ho hrs HK
  go_wp2_with fail
  refine HCL.out.mono ?_
  rintro e w2 ⟨hb2, hm⟩
  have hB2 := bnext hb1 hb2
  cases hv : cwV l c
  · rw [hv] at hm
    obtain rfl := hm
    have HVV := Lib.hid hv
    clear hv
    go_wp2_with fail
    go_returns
    rw [HVV.out]
    exact ⟨_, rfl, oi_nil _ _ _, hB2⟩
  · rw [hv] at hm
    obtain ⟨v, rfl, ho2⟩ := hm
    have HVV := Lib.hid hv
    clear hv
    go_wp2_with fail
    go_returns
    rw [HVV.out]
    exact ⟨_, rfl, oi_low8 ho2 hz1, hB2⟩
set_option maxHeartbeats 1600000 in
theorem implColourStableWith_no (n k c : Int) (h : ¬ ((1 ≤ n ∧ n ≤ 8 ∧ 1 ≤ k ∧ k ≤ n) ∧ n ≤ 7 ∧ 1 ≤ c ∧ c ≤ 8)) (w : World) :
    Calls Try.prog 13 #[.int .i64 n, .int .i64 k, .int .i64 c] w (OutColourStableWith w [] false) := by
  by_cases hg : 1 ≤ n ∧ n ≤ 8 ∧ 1 ≤ k ∧ k ≤ n
  · obtain ⟨n, rfl⟩ := Int.eq_ofNat_of_zero_le (show 0 ≤ n by omega)
    obtain ⟨k, rfl⟩ := Int.eq_ofNat_of_zero_le (show 0 ≤ k by omega)
    have HG := Lib.hid (hidG8 n k hg w)
    by_cases hn : (n : Int) ≤ 7
    · have hc : ¬ (1 ≤ c ∧ c ≤ 8) := fun hc => h ⟨hg, hn, hc⟩
      have HF := Lib.hid (fun a len cap w' => firstCol_no a len cap n k c hc w')
      have HST := Lib.hid (fun a cap w' h' => stable_any (kS n k) n k (by omega) (fun s hs => (kS_lt n k (by omega) s hs).2) (kS_len8 n k (by omega)) a cap w' h')
      rw [toI_len] at HST
      clear h hg hc
      have htl := toI_len (kS n k)
      go_enter Try.func13, Try.ntmps13
      go_wp2_with fail
      refine HG.out.mono ?_
      rintro e w1 ⟨v, rfl, ho, hb1⟩
      obtain ⟨va, vc, -, rfl, -, hrs⟩ := oi_shape ho
      rw [htl] at ho ⊢
      have hbA := balloc (Below.refl w1.heap.size w1) (.cells #[.slice va (kS n k).length vc, .int .i64 n, .int .i64 k] 48)
      have hB := bnext hb1 hbA
      have HR := Lib.hid (rds_mono (rds_bel hrs hbA) hbA.size)
      clear hrs ho
      go_wp2_with fail
      refine (HST.out va vc _ HR.out).mono ?_
      rintro e w3 ⟨a', cap', rfl, -, hb3⟩
      go_wp2_with fail
      refine (HF.out a' _ cap' _).mono ?_
      rintro e w2 ⟨rfl, hb2⟩
      have hB := bnext hB hb3
      go_wp2_with fail
      go_returns
      exact ⟨_, rfl, oi_nil _ _ _, bnext hB hb2⟩
    · have hn2 : 7 < (n : Int) := by omega
      have htl := toI_len (kS n k)
      clear h hg hn
      go_enter Try.func13, Try.ntmps13
      go_wp2_with fail
      refine HG.out.mono ?_
      rintro e w1 ⟨v, rfl, ho, hb1⟩
      obtain ⟨va, vc, -, rfl, -, hrs⟩ := oi_shape ho
      rw [htl] at ho ⊢
      go_wp2_with fail
      go_returns
      exact ⟨_, rfl, oi_nil _ _ _, balloc hb1 _⟩
  · have HG := Lib.hid (knGraph_no n k hg w)
    clear h hg
    go_enter Try.func13, Try.ntmps13
    go_wp2_with fail
    refine HG.out.mono ?_
    rintro e w1 ⟨rfl, hb1⟩
    go_wp2_with fail
    go_returns
    exact ⟨_, rfl, oi_nil _ _ _, balloc hb1 _⟩
set_option maxHeartbeats 1600000 in
theorem implColourStableWith_yes (n k c : Nat) (hg : 1 ≤ (n : Int) ∧ (n : Int) ≤ 8 ∧ 1 ≤ (k : Int) ∧ (k : Int) ≤ n) (hn : n ≤ 7) (h1 : 1 ≤ c) (h8 : c ≤ 8) (w : World) :
    Calls Try.prog 13 #[.int .i64 n, .int .i64 k, .int .i64 c] w (OutColourStableWith w (outL (cwV (stabL n (kS n k)) c)) (cwV (stabL n (kS n k)) c).isSome) := by
  have HG := Lib.hid (hidG8 n k hg w)
  have hls : ∀ s ∈ stabL n (kS n k), s < 256 := fun s hs => (kS_lt n k (by omega) s (List.mem_filter.1 hs).1).2
  have hlen : (stabL n (kS n k)).length ≤ 256 := Nat.le_trans (List.length_filter_le _ _) (kS_len8 n k (by omega))
  have HST := Lib.hid (fun a cap w' h' => stable_any (kS n k) n k (by omega) (fun s hs => (kS_lt n k (by omega) s hs).2) (kS_len8 n k (by omega)) a cap w' h')
  rw [toI_len, toI_len] at HST
  have HF := Lib.hid (fun a cap w' h' => firstCol_yes (stabL n (kS n k)) hls hlen a cap n k c h1 h8 w' h')
  have hni : (n : Int) ≤ 7 := by omega
  have htl := toI_len (kS n k)
  have htl2 := toI_len (stabL n (kS n k))
  clear hg hls
  go_enter Try.func13, Try.ntmps13
  go_wp2_with fail
  refine HG.out.mono ?_
  rintro e w1 ⟨v, rfl, ho, hb1⟩
  obtain ⟨va, vc, -, rfl, -, hrs⟩ := oi_shape ho
  rw [htl] at ho ⊢
  have hbA := balloc (Below.refl w1.heap.size w1) (.cells #[.slice va (kS n k).length vc, .int .i64 n, .int .i64 k] 48)
  have hB := bnext hb1 hbA
  have hzB := hB.size
  have HR := Lib.hid (rds_mono (rds_bel hrs hbA) hbA.size)
  clear hrs ho
  go_wp2_with fail
  refine (HST.out va vc _ HR.out).mono ?_
  rintro e w4 ⟨a', cap', rfl, hr4, hb4⟩
  have HR4 := Lib.hid hr4
  clear hr4
  go_wp2_with fail
  refine (HF.out a' cap' _ HR4.out).mono ?_
  rintro e w2 ⟨v, rfl, ho3, hb3⟩
  have hBB := bnext hB hb4
  have hz4 := hBB.size
  go_wp2_with fail
  go_returns
  exact ⟨_, rfl, oi_low8 ho3 (by omega), bnext hBB hb3⟩
theorem law_ColourStableWith (w : World) (n : Int) (_ : (Lit.int .i64 n).wf = true) (k : Int) (_ : (Lit.int .i64 k).wf = true) (c : Int) (_ : (Lit.int .i64 c).wf = true) :
    Calls Try.prog 4 #[.int .i64 n, .int .i64 k, .int .i64 c] w fun e w' => e = .returned (.bool true) ∧ Below w.heap.size w w' := by
  by_cases h : (1 ≤ n ∧ n ≤ 8 ∧ 1 ≤ k ∧ k ≤ n) ∧ n ≤ 7 ∧ 1 ≤ c ∧ c ≤ 8
  · obtain ⟨hg, hn, h1, h8⟩ := h
    obtain ⟨n', rfl⟩ := Int.eq_ofNat_of_zero_le (show 0 ≤ n by omega)
    obtain ⟨k', rfl⟩ := Int.eq_ofNat_of_zero_le (show 0 ≤ k by omega)
    obtain ⟨c', rfl⟩ := Int.eq_ofNat_of_zero_le (show 0 ≤ c by omega)
    have hl : (outL (cwV (stabL n' (kS n' k')) c')).length ≤ 100000 := by
      have hlen : (stabL n' (kS n' k')).length ≤ 256 := Nat.le_trans (List.length_filter_le _ _) (kS_len8 n' k' (by omega))
      cases hv : cwV (stabL n' (kS n' k')) c' with
      | none => simp [outL]
      | some o =>
        have := impS_len _ _ _ _ _ o hv
        simp only [outL, toI_len]; omega
    exact lawOf_ColourStableWith n' k' c' w _ _ hl (fun w' => specColourStableWith_yes n' k' c' hg (by omega) (by omega) (by omega) w') (fun w' => implColourStableWith_yes n' k' c' hg (by omega) (by omega) (by omega) w')
  · exact lawOf_ColourStableWith n k c w [] false (by simp) (fun w' => specColourStableWith_no n k c h w') (fun w' => implColourStableWith_no n k c h w')
end Go.Proofs.Ytjohjiknngagiaa
