import Derived.Test.YtfhohmahckjpeaaK20
namespace Go.Proofs.Ytfhohmahckjpeaa
open Go.RowKit
set_option maxRecDepth 4000
def OutIsColouring (w : World) (r0 : Bool) (r1 : Bool) (e : Ending) (w' : World) : Prop := e = .returned (.tuple #[.bool r0, .bool r1]) ∧ Below w.heap.size w w'
set_option maxHeartbeats 3200000 in
theorem lawOf_IsColouring (n : Int) (k : Int) (cs : List Int) (a_cs : Option Addr) (c_cs : Nat) (w : World) (h_cs : RdS w w.heap.size a_cs cs) (r0 : Bool) (r1 : Bool)
    (hs : ∀ (a_cs' : Option Addr) (c_cs' : Nat) (w' : World), cs.length ≤ 1048576 → RdS w' w'.heap.size a_cs' cs → Calls Try.prog 27 #[.int .i64 n, .int .i64 k, .slice a_cs' cs.length c_cs'] w' (OutIsColouring w' r0 r1))
    (hi : ∀ (a_cs' : Option Addr) (c_cs' : Nat) (w' : World), cs.length ≤ 1048576 → RdS w' w'.heap.size a_cs' cs → Calls Try.prog 29 #[.int .i64 n, .int .i64 k, .slice a_cs' cs.length c_cs'] w' (OutIsColouring w' r0 r1)) :
    Calls Try.prog 8 #[.int .i64 n, .int .i64 k, .slice a_cs cs.length c_cs] w fun e w' => e = .returned (.bool true) ∧ Below w.heap.size w w' := by
  have HS := Lib.hid hs
  have HI := Lib.hid hi
  clear hs hi
  have hne0 : (r0 != r0) = false := by simp
  have hne1 : (r1 != r1) = false := by simp
  have hB0 : Below w.heap.size w w := Below.refl _ _
  by_cases hbig_cs : (1048576 : Int) < (cs.length : Int)
  · go_enter Try.func8, Try.ntmps8
    go_wp2_with fail
    go_ret
    exact ⟨rfl, Below.refl _ _⟩
  have hsz_cs : cs.length ≤ 1048576 := by omega
  go_enter Try.func8, Try.ntmps8
  go_wp2_with fail
  refine (toIntS_rd cs a_cs c_cs _ _ h_cs (by omega) hsz_cs).mono ?_
  rintro e w1 ⟨v_csp, rfl, o_csp, hb⟩
  have hc := chg_below hb
  clear hb
  have z1 := hc.size
  replace h_cs := rds_chg h_cs hc (by omega) (by omega)
  replace hB0 := below_chg hB0 hc (by omega) (by omega)
  clear hc
  obtain ⟨a_csp, c_csp, _, rfl, -, rd_csp⟩ := oi_shape o_csp
  go_wp2_with fail
  refine (HS.out a_csp c_csp _ hsz_cs (rds_mono rd_csp (by omega))).mono ?_
  rintro e w2 ⟨rfl, hb⟩
  have hc := chg_below hb
  clear hb
  clear rd_csp
  have z2 := hc.size
  replace h_cs := rds_chg h_cs hc (by omega) (by omega)
  replace o_csp := oi_keep o_csp hc (by omega) (by omega)
  replace hB0 := below_chg hB0 hc (by omega) (by omega)
  clear hc
  go_wp2_with fail
  clear o_csp
  refine (toIntS_rd cs a_cs c_cs _ _ h_cs (by omega) hsz_cs).mono ?_
  rintro e w3 ⟨v_csx, rfl, o_csx, hb⟩
  have hc := chg_below hb
  clear hb
  have z3 := hc.size
  replace h_cs := rds_chg h_cs hc (by omega) (by omega)
  replace hB0 := below_chg hB0 hc (by omega) (by omega)
  clear hc
  obtain ⟨a_csx, c_csx, _, rfl, -, rd_csx⟩ := oi_shape o_csx
  go_wp2_with fail
  refine (HI.out a_csx c_csx _ hsz_cs (rds_mono rd_csx (by omega))).mono ?_
  rintro e w4 ⟨rfl, hb⟩
  have hc := chg_below hb
  clear hb
  clear rd_csx
  have z4 := hc.size
  replace h_cs := rds_chg h_cs hc (by omega) (by omega)
  replace o_csx := oi_keep o_csx hc (by omega) (by omega)
  replace hB0 := below_chg hB0 hc (by omega) (by omega)
  clear hc
  go_wp2_with fail
  refine (toIntS_rd cs a_cs c_cs _ _ h_cs (by omega) hsz_cs).mono ?_
  rintro e w5 ⟨v_csy, rfl, o_csy, hb⟩
  have hc := chg_below hb
  clear hb
  have z5 := hc.size
  replace h_cs := rds_chg h_cs hc (by omega) (by omega)
  replace o_csx := oi_keep o_csx hc (by omega) (by omega)
  replace hB0 := below_chg hB0 hc (by omega) (by omega)
  clear hc
  obtain ⟨a_csy, c_csy, -, rfl, -⟩ := oi_shape o_csy
  go_wp2_with fail
  refine (eqIntS_rd cs a_csx a_csy _ _ c_csx c_csy _ (oi_rds o_csx) (oi_rds o_csy)).mono ?_
  rintro e w6 ⟨rfl, hs⟩
  have hc := chg_same hs
  clear hs
  have z6 := hc.size
  replace h_cs := rds_chg h_cs hc (by omega) (by omega)
  replace o_csx := oi_keep o_csx hc (by omega) (by omega)
  replace o_csy := oi_keep o_csy hc (by omega) (by omega)
  replace hB0 := below_chg hB0 hc (by omega) (by omega)
  clear hc
  go_wp2_with fail
  clear o_csy
  go_ret
  exact ⟨rfl, hB0⟩
/-- Whether a list is a colouring. -/
def icV (l : List Nat) (cs : List Int) (r : Option (Nat × Nat)) : Bool := decide (cs.length = l.length) && (!r.isSome && !anyB (negB cs) l.length)
set_option maxHeartbeats 400000 in
theorem specIsColouring_no (n k : Int) (cs : List Int) (h : ¬ (1 ≤ n ∧ n ≤ 8 ∧ 1 ≤ k ∧ k ≤ n)) (a : Option Addr) (cap : Nat) (w : World) :
    Calls Try.prog 27 #[.int .i64 n, .int .i64 k, .slice a cs.length cap] w (OutIsColouring w false false) := by
  have HG := Lib.hid (knGiven_no n k h w)
  clear h
  go_enter Try.func27, Try.ntmps27
  go_wp2_with fail
  refine HG.out.mono ?_
  rintro e w' ⟨rfl, rfl⟩
  go_wp2_with fail
  go_returns
  exact ⟨rfl, Below.refl _ _⟩
set_option maxHeartbeats 1600000 in
theorem specIsColouring_yes (n k : Nat) (cs : List Int) (h : 1 ≤ (n : Int) ∧ (n : Int) ≤ 8 ∧ 1 ≤ (k : Int) ∧ (k : Int) ≤ n) (r : Option (Nat × Nat)) (hr : ResOf (clS (kS n k) cs) (kS n k).length r) (a : Option Addr) (cap : Nat) (w : World) (hrd : RdS w w.heap.size a cs) :
    Calls Try.prog 27 #[.int .i64 n, .int .i64 k, .slice a cs.length cap] w (OutIsColouring w (icV (kS n k) cs r) true) := by
  have HG := Lib.hid (knGiven_yes n k h w)
  have hlen : (kS n k).length ≤ 256 := by rw [← kI_length]; exact kI_len n k (by omega)
  have HS : Hid (∀ w : World, Calls Try.prog 41 #[.int .i64 n, .int .i64 k] w fun e w' => ∃ v, e = .returned v ∧ OI w' w.heap.size w'.heap.size v (toI (kS n k)) ∧ Below w.heap.size w w') := Lib.hid (knSets_any n k (by omega))
  have hls : ∀ s ∈ kS n k, s < 256 := fun s hs => (kS_lt n k (by omega) s hs).2
  clear h
  generalize kS n k = l at *
  have htl := toI_len l
  by_cases hl : cs.length = l.length
  · have HKC := Lib.hid (fun a2 c2 w' (h2 : RdS w' w'.heap.size a2 (toI l)) (h3 : RdS w' w'.heap.size a cs) => knClash_any l cs hls hl hlen r hr a2 a c2 cap w'.heap.size w'.heap.size w' h2 h3)
    have HNO := Lib.hid (anyB_no (negB cs) l.length)
    have HYES := Lib.hid (anyB_yes (negB cs) l.length)
    have HRD := Lib.hid hrd
    obtain ⟨b, off, ⟨hm, hc⟩, hbB⟩ := hrd
    have HC := Lib.hid hc
    have HV : Hid (∀ q, anyB (negB cs) l.length = q → icV l cs r = (!r.isSome && !q)) := Lib.hid (fun q hq => by simp only [icV, hl, hq, decide_true, Bool.true_and])
    have hne : ((l.length : Int) != (l.length : Int)) = false := by simp
    clear hc hm hls hr
    rw [hl]
    go_enter Try.func27, Try.ntmps27
    go_wp2_with fail
    refine HG.out.mono ?_
    rintro e w' ⟨rfl, rfl⟩
    go_wp2_with fail
    refine (HS.out _).mono ?_
    rintro e w1 ⟨v, rfl, ho, hb1⟩
    obtain ⟨va, vc, -, rfl, -, -⟩ := oi_shape ho
    have hz1 := hb1.size
    have HR1 := Lib.hid (rds_bel HRD.out hb1)
    rw [htl] at ho ⊢
    have HO := Lib.hid ho
    clear ho
    go_wp2_with fail
    go_loopw [27] (fun v27 wr => ∃ i : Nat, i ≤ l.length ∧ v27 = .int .i64 i ∧ (∀ j, j < i → negB cs j = false) ∧ w1 = wr) (fun v27 _ => l.length - (intOf v27).toNat)
    case atStart => exact ⟨0, Nat.zero_le _, rfl, fun _ h => by omega, rfl⟩
    case round =>
      obtain ⟨i, hi, rfl, hall, rfl⟩ := hrel
      have HA := Lib.hid hall
      clear hall
      by_cases hlt : i < l.length
      · have hii : (i : Int) < (l.length : Int) := by omega
        obtain ⟨ha, c⟩ := HC.out i (by omega)
        subst ha
        have c1 : w1.cell? ⟨b, off + i, none⟩ = some (.int .i64 (cs.getD i 0)) := (hb1.cell (by show b < w.heap.size; omega)).trans c
        have HB : Hid (negB cs i = decide (cs.getD i 0 < 0)) := Lib.hid rfl
        have HY := Lib.hid (HYES.out i hlt)
        clear c
        generalize cs.getD i 0 = x at *
        by_cases hx : x < 0
        · have HQ : Hid (icV l cs r = false) := Lib.hid (by rw [HV.out true (HY.out (by rw [HB.out]; simp [hx]))]; simp)
          go_wp2_with fail
          go_returns
          exact ⟨by rw [HQ.out]; rfl, hb1⟩
        · have HX : Hid (∀ j, j < i + 1 → negB cs j = false) := Lib.hid (fun j hj => by
            by_cases e : j = i
            · rw [e, HB.out]; simp [hx]
            · exact HA.out j (by omega))
          go_wp2_with fail
          go_roundw
          case rel => exact ⟨i + 1, by omega, by go_num, HX.out, by trivial⟩
          case measure => simp [intOf]; omega
      · have HQ : Hid (icV l cs r = !r.isSome) := Lib.hid (by rw [HV.out false (HNO.out (fun j hj => HA.out j (by omega)))]; simp)
        have HRS : Hid (RdS w1 w1.heap.size va (toI l)) := Lib.hid (by
          have := HO.out
          rw [← htl] at this
          exact oi_rds this)
        have HCL := Lib.hid (HKC.out va vc w1 HRS.out (rds_mono HR1.out hz1))
        generalize r.isSome = q at *
        go_wp2_with fail
        refine HCL.out.mono ?_
        rintro e w2 ⟨v, rfl, ho2, hb2⟩
        go_wp2_with fail
        go_returns
        exact ⟨by rw [HQ.out]; rfl, bnext hb1 hb2⟩
  · have hne : ((cs.length : Int) != (l.length : Int)) = true := by simp; omega
    have HQ : Hid (icV l cs r = false) := Lib.hid (by simp [icV, hl])
    rw [HQ.out]
    clear hr hrd hl
    go_enter Try.func27, Try.ntmps27
    go_wp2_with fail
    refine HG.out.mono ?_
    rintro e w' ⟨rfl, rfl⟩
    go_wp2_with fail
    refine (HS.out _).mono ?_
    rintro e w1 ⟨v, rfl, ho, hb1⟩
    obtain ⟨va, vc, -, rfl, -, -⟩ := oi_shape ho
    rw [htl]
    clear ho
    go_wp2_with fail
    go_returns
    exact ⟨rfl, hb1⟩
set_option maxHeartbeats 800000 in
theorem implIsColouring_no (n k : Int) (cs : List Int) (h : ¬ (1 ≤ n ∧ n ≤ 8 ∧ 1 ≤ k ∧ k ≤ n)) (a : Option Addr) (cap : Nat) (w : World) :
    Calls Try.prog 29 #[.int .i64 n, .int .i64 k, .slice a cs.length cap] w (OutIsColouring w false false) := by
  have HG := Lib.hid (knGraph_no n k h w)
  clear h
  go_enter Try.func29, Try.ntmps29
  go_wp2_with fail
  refine HG.out.mono ?_
  rintro e w1 ⟨rfl, hb1⟩
  go_wp2_with fail
  go_returns
  exact ⟨rfl, balloc hb1 _⟩
set_option maxHeartbeats 1600000 in
theorem implIsColouring_yes (n k : Nat) (cs : List Int) (h : 1 ≤ (n : Int) ∧ (n : Int) ≤ 8 ∧ 1 ≤ (k : Int) ∧ (k : Int) ≤ n) (r : Option (Nat × Nat)) (hr : ResOf (clS (kS n k) cs) (kS n k).length r) (a : Option Addr) (cap : Nat) (w : World) (hrd : RdS w w.heap.size a cs) :
    Calls Try.prog 29 #[.int .i64 n, .int .i64 k, .slice a cs.length cap] w (OutIsColouring w (icV (kS n k) cs r) true) := by
  have hlen : (kS n k).length ≤ 256 := by rw [← kI_length]; exact kI_len n k (by omega)
  have HG : Hid (Calls Try.prog 42 #[.int .i64 n, .int .i64 k] w fun e w' => ∃ v, e = .returned (.tuple #[.agg #[v, .int .i64 n, .int .i64 k], .bool true]) ∧ OI w' w.heap.size w'.heap.size v (toI (kS n k)) ∧ Below w.heap.size w w') := Lib.hid ((knGraph_yes n k (by omega) (by omega) (by omega) w).mono (by
    rintro e w' ⟨v, rfl, ho, hb⟩
    exact ⟨v, rfl, oi_new ho, hb⟩))
  have hls : ∀ s ∈ kS n k, s < 256 := fun s hs => (kS_lt n k (by omega) s hs).2
  clear h
  generalize kS n k = l at *
  have htl := toI_len l
  have HRD := Lib.hid hrd
  by_cases hl : cs.length = l.length
  · have HWC := Lib.hid (fun a2 c2 w' (h2 : RdS w' w'.heap.size a2 (toI l)) (h3 : RdS w' w'.heap.size a cs) => withCol_yes l cs hl hlen a2 a c2 cap n k w' h2 h3)
    have HIR := Lib.hid (fun a2 c2 w' h2 h3 h4 => isRight_any l cs hls hlen r hr a2 c2 w' h2 h3 h4)
    have HQ : Hid (icV l cs r = (!r.isSome && !anyB (negB cs) l.length)) := Lib.hid (by simp [icV, hl])
    rw [HQ.out, hl]
    clear hls hr hrd
    generalize (!r.isSome && !anyB (negB cs) l.length) = q at *
    go_enter Try.func29, Try.ntmps29
    go_wp2_with fail
    refine HG.out.mono ?_
    rintro e w1 ⟨v, rfl, ho, hb1⟩
    obtain ⟨va, vc, -, rfl, -, hrs⟩ := oi_shape ho
    rw [htl] at ho ⊢
    have hbA := balloc (Below.refl w1.heap.size w1) (.cells #[.slice va l.length vc, .int .i64 n, .int .i64 k] 40)
    have hz1 := hb1.size
    have HR1 := Lib.hid (rds_mono (rds_bel hrs hbA) hbA.size)
    have HR2 := Lib.hid (rds_mono (rds_bel HRD.out (bnext hb1 hbA)) (Nat.le_trans hz1 hbA.size))
    clear ho hrs
    go_wp2_with fail
    refine (HWC.out va vc _ HR1.out HR2.out).mono ?_
    rintro e w2 ⟨v, rfl, ho, hb2⟩
    obtain ⟨ua, uc, rfl, hp, -⟩ := own_rdp ho
    obtain ⟨hcap, hcm⟩ := own_cap ho
    have hbC := balloc (Below.refl w2.heap.size w2) (.cells #[.slice ua l.length uc] 53)
    have HR3 := Lib.hid (rdp_mono (rdp_bel hp hbC) hbC.size)
    have hB2 := bnext (bnext hb1 hbA) hb2
    clear ho hp hb2 hbA
    go_wp2_with fail
    refine (HIR.out ua uc _ HR3.out hcap hcm).mono ?_
    rintro e w3 ⟨rfl, hb3⟩
    go_wp2_with fail
    go_returns
    exact ⟨rfl, bnext (bnext hB2 hbC) hb3⟩
  · have HWC := Lib.hid (fun a2 c2 w' => withCol_no l cs.length hl a2 a c2 cap n k w')
    have HQ : Hid (icV l cs r = false) := Lib.hid (by simp [icV, hl])
    rw [HQ.out]
    clear hls hr hrd
    generalize cs.length = m at *
    go_enter Try.func29, Try.ntmps29
    go_wp2_with fail
    refine HG.out.mono ?_
    rintro e w1 ⟨v, rfl, ho, hb1⟩
    obtain ⟨va, vc, -, rfl, -, hrs⟩ := oi_shape ho
    rw [htl] at ho ⊢
    have hbA := balloc (Below.refl w1.heap.size w1) (.cells #[.slice va l.length vc, .int .i64 n, .int .i64 k] 40)
    clear ho hrs
    go_wp2_with fail
    refine (HWC.out va vc _).mono ?_
    rintro e w2 ⟨rfl, hb2⟩
    have hB2 := bnext (bnext hb1 hbA) hb2
    go_wp2_with fail
    go_returns
    exact ⟨rfl, balloc hB2 _⟩
theorem law_IsColouring (w : World) (n : Int) (_ : (Lit.int .i64 n).wf = true) (k : Int) (_ : (Lit.int .i64 k).wf = true) (cs : List Int) (a_cs : Option Addr) (c_cs : Nat) (h_cs : RdS w w.heap.size a_cs cs) :
    Calls Try.prog 8 #[.int .i64 n, .int .i64 k, .slice a_cs cs.length c_cs] w fun e w' => e = .returned (.bool true) ∧ Below w.heap.size w w' := by
  by_cases h : 1 ≤ n ∧ n ≤ 8 ∧ 1 ≤ k ∧ k ≤ n
  · obtain ⟨n', rfl⟩ := Int.eq_ofNat_of_zero_le (show 0 ≤ n by omega)
    obtain ⟨k', rfl⟩ := Int.eq_ofNat_of_zero_le (show 0 ≤ k by omega)
    obtain ⟨r, hr⟩ := res_some (clS (kS n' k') cs) (kS n' k').length
    exact lawOf_IsColouring n' k' cs a_cs c_cs w h_cs _ true (fun a c w' _ h' => specIsColouring_yes n' k' cs h r hr a c w' h') (fun a c w' _ h' => implIsColouring_yes n' k' cs h r hr a c w' h')
  · exact lawOf_IsColouring n k cs a_cs c_cs w h_cs false false (fun a c w' _ _ => specIsColouring_no n k cs h a c w') (fun a c w' _ _ => implIsColouring_no n k cs h a c w')
end Go.Proofs.Ytfhohmahckjpeaa
