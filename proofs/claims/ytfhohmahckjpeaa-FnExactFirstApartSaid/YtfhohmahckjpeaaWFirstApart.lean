import Derived.Test.YtfhohmahckjpeaaK20
namespace Go.Proofs.Ytfhohmahckjpeaa
open Go.RowKit
set_option maxRecDepth 4000
def OutFirstApart (w : World) (r0 : List Int) (r1 : Bool) (e : Ending) (w' : World) : Prop := ∃ v0, e = .returned (.tuple #[v0, .bool r1]) ∧ OI w' w.heap.size w'.heap.size v0 r0 ∧ Below w.heap.size w w'
set_option maxHeartbeats 3200000 in
theorem lawOf_FirstApart (n : Int) (k : Int) (cs : List Int) (a_cs : Option Addr) (c_cs : Nat) (w : World) (h_cs : RdS w w.heap.size a_cs cs) (r0 : List Int) (r1 : Bool) (hL0 : r0.length ≤ 100000)
    (hs : ∀ (a_cs' : Option Addr) (c_cs' : Nat) (w' : World), cs.length ≤ 1048576 → RdS w' w'.heap.size a_cs' cs → Calls Try.prog 30 #[.int .i64 n, .int .i64 k, .slice a_cs' cs.length c_cs'] w' (OutFirstApart w' r0 r1))
    (hi : ∀ (a_cs' : Option Addr) (c_cs' : Nat) (w' : World), cs.length ≤ 1048576 → RdS w' w'.heap.size a_cs' cs → Calls Try.prog 31 #[.int .i64 n, .int .i64 k, .slice a_cs' cs.length c_cs'] w' (OutFirstApart w' r0 r1)) :
    Calls Try.prog 9 #[.int .i64 n, .int .i64 k, .slice a_cs cs.length c_cs] w fun e w' => e = .returned (.bool true) ∧ Below w.heap.size w w' := by
  have HS := Lib.hid hs
  have HI := Lib.hid hi
  clear hs hi
  have hne1 : (r1 != r1) = false := by simp
  have hB0 : Below w.heap.size w w := Below.refl _ _
  by_cases hbig_cs : (1048576 : Int) < (cs.length : Int)
  · go_enter Try.func9, Try.ntmps9
    go_wp2_with fail
    go_ret
    exact ⟨rfl, Below.refl _ _⟩
  have hsz_cs : cs.length ≤ 1048576 := by omega
  go_enter Try.func9, Try.ntmps9
  go_wp2_with fail
  refine (toIntS_rd cs a_cs c_cs _ _ h_cs (by omega) hsz_cs).mono ?_
  rintro e w1 ⟨v_csp, rfl, o_csp, hb⟩
  have hc := chg_below hb
  clear hb
  have z1 := hc.size
  replace h_cs := rds_chg h_cs hc (by omega) (by omega)
  replace hB0 := below_chg hB0 hc (by omega) (by omega)
  clear hc
  obtain ⟨a_csp, c_csp, _, rfl, -, rd_csp⟩ := oi_shape o_csp
  go_wp2_with fail
  refine (HS.out a_csp c_csp _ hsz_cs (rds_mono rd_csp (by omega))).mono ?_
  rintro e w2 ⟨vs0, rfl, os0, hb⟩
  have hc := chg_below hb
  clear hb
  clear rd_csp
  have z2 := hc.size
  replace h_cs := rds_chg h_cs hc (by omega) (by omega)
  replace o_csp := oi_keep o_csp hc (by omega) (by omega)
  replace hB0 := below_chg hB0 hc (by omega) (by omega)
  clear hc
  obtain ⟨as0, cs0, -, rfl, -⟩ := oi_shape os0
  go_wp2_with fail
  clear o_csp
  refine (toIntS_rd cs a_cs c_cs _ _ h_cs (by omega) hsz_cs).mono ?_
  rintro e w3 ⟨v_csx, rfl, o_csx, hb⟩
  have hc := chg_below hb
  clear hb
  have z3 := hc.size
  replace h_cs := rds_chg h_cs hc (by omega) (by omega)
  replace os0 := oi_keep os0 hc (by omega) (by omega)
  replace hB0 := below_chg hB0 hc (by omega) (by omega)
  clear hc
  obtain ⟨a_csx, c_csx, _, rfl, -, rd_csx⟩ := oi_shape o_csx
  go_wp2_with fail
  refine (HI.out a_csx c_csx _ hsz_cs (rds_mono rd_csx (by omega))).mono ?_
  rintro e w4 ⟨vg0, rfl, og0, hb⟩
  have hc := chg_below hb
  clear hb
  clear rd_csx
  have z4 := hc.size
  replace h_cs := rds_chg h_cs hc (by omega) (by omega)
  replace os0 := oi_keep os0 hc (by omega) (by omega)
  replace o_csx := oi_keep o_csx hc (by omega) (by omega)
  replace hB0 := below_chg hB0 hc (by omega) (by omega)
  clear hc
  obtain ⟨ag0, cg0, -, rfl, -⟩ := oi_shape og0
  go_wp2_with fail
  refine (eqIntS_rd r0 ag0 as0 _ _ cg0 cs0 _ (oi_rds og0) (oi_rds os0)).mono ?_
  rintro e w5 ⟨rfl, hs⟩
  have hc := chg_same hs
  clear hs
  have z5 := hc.size
  replace h_cs := rds_chg h_cs hc (by omega) (by omega)
  replace os0 := oi_keep os0 hc (by omega) (by omega)
  replace o_csx := oi_keep o_csx hc (by omega) (by omega)
  replace og0 := oi_keep og0 hc (by omega) (by omega)
  replace hB0 := below_chg hB0 hc (by omega) (by omega)
  clear hc
  go_wp2_with fail
  refine (toIntS_rd cs a_cs c_cs _ _ h_cs (by omega) hsz_cs).mono ?_
  rintro e w6 ⟨v_csy, rfl, o_csy, hb⟩
  have hc := chg_below hb
  clear hb
  have z6 := hc.size
  replace h_cs := rds_chg h_cs hc (by omega) (by omega)
  replace os0 := oi_keep os0 hc (by omega) (by omega)
  replace o_csx := oi_keep o_csx hc (by omega) (by omega)
  replace og0 := oi_keep og0 hc (by omega) (by omega)
  replace hB0 := below_chg hB0 hc (by omega) (by omega)
  clear hc
  obtain ⟨a_csy, c_csy, -, rfl, -⟩ := oi_shape o_csy
  go_wp2_with fail
  refine (eqIntS_rd cs a_csx a_csy _ _ c_csx c_csy _ (oi_rds o_csx) (oi_rds o_csy)).mono ?_
  rintro e w7 ⟨rfl, hs⟩
  have hc := chg_same hs
  clear hs
  have z7 := hc.size
  replace h_cs := rds_chg h_cs hc (by omega) (by omega)
  replace os0 := oi_keep os0 hc (by omega) (by omega)
  replace o_csx := oi_keep o_csx hc (by omega) (by omega)
  replace og0 := oi_keep og0 hc (by omega) (by omega)
  replace o_csy := oi_keep o_csy hc (by omega) (by omega)
  replace hB0 := below_chg hB0 hc (by omega) (by omega)
  clear hc
  go_wp2_with fail
  clear o_csy
  refine (markIntS_chg cs a_csx _ _ c_csx _ _ o_csx (by omega) (by omega)).mono ?_
  rintro e w8 ⟨rfl, -, hc⟩
  clear o_csx
  have z8 := hc.size
  replace h_cs := rds_chg h_cs hc (by omega) (by omega)
  replace os0 := oi_keep os0 hc (by omega) (by omega)
  replace og0 := oi_keep og0 hc (by omega) (by omega)
  replace hB0 := below_chg hB0 hc (by omega) (by omega)
  clear hc
  go_wp2_with fail
  refine (eqIntS_rd r0 ag0 as0 _ _ cg0 cs0 _ (oi_rds og0) (oi_rds os0)).mono ?_
  rintro e w9 ⟨rfl, hs⟩
  have hc := chg_same hs
  clear hs
  have z9 := hc.size
  replace h_cs := rds_chg h_cs hc (by omega) (by omega)
  replace os0 := oi_keep os0 hc (by omega) (by omega)
  replace og0 := oi_keep og0 hc (by omega) (by omega)
  replace hB0 := below_chg hB0 hc (by omega) (by omega)
  clear hc
  go_wp2_with fail
  refine (markIntS_chg r0 ag0 _ _ cg0 1 _ og0 (by omega) (by omega)).mono ?_
  rintro e w10 ⟨rfl, om0, hc⟩
  have hlm0 : (mkd 1 r0.length r0).length = r0.length := mkd_len _ _ _ (Nat.le_refl _)
  have HLM0 := Lib.hid hlm0
  clear hlm0
  clear og0
  have z10 := hc.size
  replace h_cs := rds_chg h_cs hc (by omega) (by omega)
  replace os0 := oi_keep os0 hc (by omega) (by omega)
  replace hB0 := below_chg hB0 hc (by omega) (by omega)
  clear hc
  go_wp2_with fail
  refine (heldIntS_rd r0 1 ag0 _ _ cg0 _ HLM0.out (oi_rds2 om0) (by omega) (by omega)).mono ?_
  rintro e w' ⟨rfl, rfl⟩
  go_wp2_with fail
  refine (toIntS_rd cs a_cs c_cs _ _ h_cs (by omega) hsz_cs).mono ?_
  rintro e w11 ⟨v_csz, rfl, o_csz, hb⟩
  have hc := chg_below hb
  clear hb
  have z11 := hc.size
  replace h_cs := rds_chg h_cs hc (by omega) (by omega)
  replace os0 := oi_keep os0 hc (by omega) (by omega)
  replace om0 := oi_keep om0 hc (by omega) (by omega)
  replace hB0 := below_chg hB0 hc (by omega) (by omega)
  clear hc
  obtain ⟨a_csz, c_csz, _, rfl, -, rd_csz⟩ := oi_shape o_csz
  go_wp2_with fail
  refine (HI.out a_csz c_csz _ hsz_cs (rds_mono rd_csz (by omega))).mono ?_
  rintro e w12 ⟨vh0, rfl, oh0, hb⟩
  have hc := chg_below hb
  clear hb
  clear rd_csz
  have z12 := hc.size
  replace h_cs := rds_chg h_cs hc (by omega) (by omega)
  replace os0 := oi_keep os0 hc (by omega) (by omega)
  replace om0 := oi_keep om0 hc (by omega) (by omega)
  replace o_csz := oi_keep o_csz hc (by omega) (by omega)
  replace hB0 := below_chg hB0 hc (by omega) (by omega)
  clear hc
  obtain ⟨ah0, ch0, -, rfl, -⟩ := oi_shape oh0
  go_wp2_with fail
  clear o_csz
  refine (eqIntS_rd r0 ah0 as0 _ _ ch0 cs0 _ (oi_rds oh0) (oi_rds os0)).mono ?_
  rintro e w13 ⟨rfl, hs⟩
  have hc := chg_same hs
  clear hs
  have z13 := hc.size
  replace h_cs := rds_chg h_cs hc (by omega) (by omega)
  replace os0 := oi_keep os0 hc (by omega) (by omega)
  replace om0 := oi_keep om0 hc (by omega) (by omega)
  replace oh0 := oi_keep oh0 hc (by omega) (by omega)
  replace hB0 := below_chg hB0 hc (by omega) (by omega)
  clear hc
  go_wp2_with fail
  refine (heldIntS_rd r0 1 ag0 _ _ cg0 _ HLM0.out (oi_rds2 om0) (by omega) (by omega)).mono ?_
  rintro e w' ⟨rfl, rfl⟩
  go_wp2_with fail
  go_ret
  exact ⟨rfl, hB0⟩
set_option maxHeartbeats 400000 in
theorem specFirstApart_no (n k : Int) (cs : List Int) (h : ¬ (1 ≤ n ∧ n ≤ 8 ∧ 1 ≤ k ∧ k ≤ n)) (a : Option Addr) (cap : Nat) (w : World) :
    Calls Try.prog 30 #[.int .i64 n, .int .i64 k, .slice a cs.length cap] w (OutFirstApart w [] false) := by
  have HG := Lib.hid (knGiven_no n k h w)
  clear h
  go_enter Try.func30, Try.ntmps30
  go_wp2_with fail
  refine HG.out.mono ?_
  rintro e w' ⟨rfl, rfl⟩
  go_wp2_with fail
  go_returns
  exact ⟨_, rfl, oi_nil _ _ _, Below.refl _ _⟩
set_option maxHeartbeats 800000 in
theorem specFirstApart_len (n k : Nat) (cs : List Int) (h : 1 ≤ (n : Int) ∧ (n : Int) ≤ 8 ∧ 1 ≤ (k : Int) ∧ (k : Int) ≤ n) (hl : cs.length ≠ (kS n k).length) (a : Option Addr) (cap : Nat) (w : World) :
    Calls Try.prog 30 #[.int .i64 n, .int .i64 k, .slice a cs.length cap] w (OutFirstApart w [] false) := by
  have HG := Lib.hid (knGiven_yes n k h w)
  have HC := Lib.hid (knChoose_any n k (by omega) (by omega))
  rw [kS_len n (by omega) k (by omega)] at hl
  have hne : ((cs.length : Int) != ((chs n k : Nat) : Int)) = true := by simp; omega
  clear h hl
  go_enter Try.func30, Try.ntmps30
  go_wp2_with fail
  refine HG.out.mono ?_
  rintro e w' ⟨rfl, rfl⟩
  go_wp2_with fail
  refine (HC.out _).mono ?_
  rintro e w' ⟨rfl, rfl⟩
  go_wp2_with fail
  go_returns
  exact ⟨_, rfl, oi_nil _ _ _, Below.refl _ _⟩
set_option maxHeartbeats 1600000 in
theorem specFirstApart_yes (n k : Nat) (cs : List Int) (h : 1 ≤ (n : Int) ∧ (n : Int) ≤ 8 ∧ 1 ≤ (k : Int) ∧ (k : Int) ≤ n) (hl : cs.length = (kS n k).length) (r : Option (Nat × Nat)) (hr : ResOf (clS (kS n k) cs) (kS n k).length r) (a : Option Addr) (cap : Nat) (w : World) (hrd : RdS w w.heap.size a cs) :
    Calls Try.prog 30 #[.int .i64 n, .int .i64 k, .slice a cs.length cap] w (OutFirstApart w (twoL (kS n k) r) r.isSome) := by
  have HG := Lib.hid (knGiven_yes n k h w)
  have hlen : (kS n k).length ≤ 256 := by rw [← kI_length]; exact kI_len n k (by omega)
  have HC := Lib.hid (knChoose_any n k (by omega) (by omega))
  rw [← kS_len n (by omega) k (by omega)] at HC
  have HS : Hid (∀ w : World, Calls Try.prog 41 #[.int .i64 n, .int .i64 k] w fun e w' => ∃ v, e = .returned v ∧ OI w' w.heap.size w'.heap.size v (toI (kS n k)) ∧ Below w.heap.size w w') := Lib.hid (knSets_any n k (by omega))
  have hls : ∀ s ∈ kS n k, s < 256 := fun s hs => (kS_lt n k (by omega) s hs).2
  clear h
  generalize kS n k = l at *
  have htl := toI_len l
  have HKC := Lib.hid (fun a2 c2 w' (h2 : RdS w' w'.heap.size a2 (toI l)) (h3 : RdS w' w'.heap.size a cs) => knClash_any l cs hls hl hlen r hr a2 a c2 cap w'.heap.size w'.heap.size w' h2 h3)
  have HRD := Lib.hid hrd
  have hne : ((l.length : Int) != (l.length : Int)) = false := by simp
  clear hls hr hrd
  rw [hl]
  generalize twoL l r = q at *
  generalize r.isSome = p at *
  go_enter Try.func30, Try.ntmps30
  go_wp2_with fail
  refine HG.out.mono ?_
  rintro e w' ⟨rfl, rfl⟩
  go_wp2_with fail
  refine (HC.out _).mono ?_
  rintro e w' ⟨rfl, rfl⟩
  go_wp2_with fail
  refine (HS.out _).mono ?_
  rintro e w1 ⟨v, rfl, ho, hb1⟩
  obtain ⟨va, vc, -, rfl, -, hrs⟩ := oi_shape ho
  have HCL := Lib.hid (HKC.out va vc w1 hrs (rds_mono (rds_bel HRD.out hb1) hb1.size))
  rw [htl]
  have hz1 := hb1.size
  clear ho hrs
  go_wp2_with fail
  refine HCL.out.mono ?_
  rintro e w2 ⟨v, rfl, ho2, hb2⟩
  go_wp2_with fail
  go_returns
  exact ⟨_, rfl, oi_low ho2 hz1, bnext hb1 hb2⟩
set_option maxHeartbeats 800000 in
theorem implFirstApart_no (n k : Int) (cs : List Int) (h : ¬ (1 ≤ n ∧ n ≤ 8 ∧ 1 ≤ k ∧ k ≤ n)) (a : Option Addr) (cap : Nat) (w : World) (hrd : RdS w w.heap.size a cs) :
    Calls Try.prog 31 #[.int .i64 n, .int .i64 k, .slice a cs.length cap] w (OutFirstApart w [] false) := by
  have HG := Lib.hid (knGraph_no n k h w)
  clear h
  by_cases hl : cs.length = 0
  · have HWC := Lib.hid (fun w' (h3 : RdS w' w'.heap.size a cs) => withCol_yes [] cs (by simpa using hl) (by simp) none a 0 cap 0 0 w' ⟨0, 0, ⟨by simp [toI, maxLen], fun j hj => by simp [toI] at hj⟩, .inl rfl⟩ h3)
    have HRD := Lib.hid hrd
    rw [hl]
    clear hl hrd
    go_enter Try.func31, Try.ntmps31
    go_wp2_with fail
    refine HG.out.mono ?_
    rintro e w1 ⟨rfl, hb1⟩
    have hbA := balloc (Below.refl w1.heap.size w1) (.cells #[.slice none 0 0, .int .i64 0, .int .i64 0] 40)
    have HR2 := Lib.hid (rds_mono (rds_bel HRD.out (bnext hb1 hbA)) (bnext hb1 hbA).size)
    go_wp2_with fail
    refine (HWC.out _ HR2.out).mono ?_
    rintro e w2 ⟨v, rfl, ho, hb2⟩
    obtain ⟨ua, uc, rfl, -, -⟩ := own_rdp (l := []) (cs := cs) (m := 0) ho
    have hB2 := bnext (bnext hb1 hbA) hb2
    clear ho hb2 hbA
    go_wp2_with fail
    go_returns
    exact ⟨_, rfl, oi_nil _ _ _, balloc hB2 _⟩
  · have HWC := Lib.hid (fun w' => withCol_no [] cs.length (by simpa using hl) none a 0 cap 0 0 w')
    clear hl hrd
    generalize cs.length = m at *
    go_enter Try.func31, Try.ntmps31
    go_wp2_with fail
    refine HG.out.mono ?_
    rintro e w1 ⟨rfl, hb1⟩
    have hbA := balloc (Below.refl w1.heap.size w1) (.cells #[.slice none 0 0, .int .i64 0, .int .i64 0] 40)
    go_wp2_with fail
    refine (HWC.out _).mono ?_
    rintro e w2 ⟨rfl, hb2⟩
    have hB2 := bnext (bnext hb1 hbA) hb2
    go_wp2_with fail
    go_returns
    exact ⟨_, rfl, oi_nil _ _ _, balloc hB2 _⟩
theorem hidG (n k : Nat) (h : 1 ≤ (n : Int) ∧ (n : Int) ≤ 8 ∧ 1 ≤ (k : Int) ∧ (k : Int) ≤ n) (w : World) : Calls Try.prog 42 #[.int .i64 n, .int .i64 k] w fun e w' => ∃ v, e = .returned (.tuple #[.agg #[v, .int .i64 n, .int .i64 k], .bool true]) ∧ OI w' w.heap.size w'.heap.size v (toI (kS n k)) ∧ Below w.heap.size w w' :=
  (knGraph_yes n k (by omega) (by omega) (by omega) w).mono (by
    rintro e w' ⟨v, rfl, ho, hb⟩
    exact ⟨v, rfl, oi_new ho, hb⟩)
set_option maxHeartbeats 800000 in
theorem implFirstApart_len (n k : Nat) (cs : List Int) (h : 1 ≤ (n : Int) ∧ (n : Int) ≤ 8 ∧ 1 ≤ (k : Int) ∧ (k : Int) ≤ n) (hl : cs.length ≠ (kS n k).length) (a : Option Addr) (cap : Nat) (w : World) :
    Calls Try.prog 31 #[.int .i64 n, .int .i64 k, .slice a cs.length cap] w (OutFirstApart w [] false) := by
  have HG := Lib.hid (hidG n k h w)
  clear h
  generalize kS n k = l at *
  have htl := toI_len l
  have HWC := Lib.hid (fun a2 c2 w' => withCol_no l cs.length hl a2 a c2 cap n k w')
  generalize cs.length = m at *
  go_enter Try.func31, Try.ntmps31
  go_wp2_with fail
  refine HG.out.mono ?_
  rintro e w1 ⟨v, rfl, ho, hb1⟩
  obtain ⟨va, vc, -, rfl, -, hrs⟩ := oi_shape ho
  rw [htl] at ho ⊢
  have hbA := balloc (Below.refl w1.heap.size w1) (.cells #[.slice va l.length vc, .int .i64 n, .int .i64 k] 40)
  clear ho hrs
  go_wp2_with fail
  refine (HWC.out va vc _).mono ?_
  rintro e w2 ⟨rfl, hb2⟩
  have hB2 := bnext (bnext hb1 hbA) hb2
  go_wp2_with fail
  go_returns
  exact ⟨_, rfl, oi_nil _ _ _, balloc hB2 _⟩
theorem map_getD (l : List Nat) : (List.range l.length).map (fun j => l.getD j 0) = l := by
  apply List.ext_getElem?
  intro i
  by_cases hi : i < l.length
  · simp [hi]
  · rw [List.getElem?_eq_none (by simp; omega), List.getElem?_eq_none (by omega)]
set_option maxHeartbeats 1600000 in
theorem implFirstApart_yes (n k : Nat) (cs : List Int) (h : 1 ≤ (n : Int) ∧ (n : Int) ≤ 8 ∧ 1 ≤ (k : Int) ∧ (k : Int) ≤ n) (hl : cs.length = (kS n k).length) (r : Option (Nat × Nat)) (hr : ResOf (clS (kS n k) cs) (kS n k).length r) (a : Option Addr) (cap : Nat) (w : World) (hrd : RdS w w.heap.size a cs) :
    Calls Try.prog 31 #[.int .i64 n, .int .i64 k, .slice a cs.length cap] w (OutFirstApart w (twoL (kS n k) r) r.isSome) := by
  have hlen : (kS n k).length ≤ 256 := by rw [← kI_length]; exact kI_len n k (by omega)
  have HG := Lib.hid (hidG n k h w)
  have hls : ∀ s ∈ kS n k, s < 256 := fun s hs => (kS_lt n k (by omega) s hs).2
  clear h
  generalize kS n k = l at *
  have htl := toI_len l
  have HRD := Lib.hid hrd
  have HWC := Lib.hid (fun a2 c2 w' (h2 : RdS w' w'.heap.size a2 (toI l)) (h3 : RdS w' w'.heap.size a cs) => withCol_yes l cs hl hlen a2 a c2 cap n k w' h2 h3)
  have HFC := Lib.hid (fun a2 c2 w' h2 h3 h4 => firstClash_any l cs hls hlen r hr a2 c2 w' h2 h3 h4)
  have HT : Hid (toI ((List.range (twN l r).length).map (fun j => (twN l r).getD j 0)) = twoL l r) := Lib.hid (by rw [map_getD, twN_toI])
  have htw : (twN l r).length ≤ 2 := by cases r <;> simp [twN]
  have HNC := Lib.hid (fun a2 c2 w' h2 => numC_any (twN l r) (twC cs r) (twN l r).length (by omega) a2 c2 w' h2)
  rw [hl]
  clear hls hr hrd
  generalize r.isSome = p at *
  generalize (twN l r).length = q at *
  go_enter Try.func31, Try.ntmps31
  go_wp2_with fail
  refine HG.out.mono ?_
  rintro e w1 ⟨v, rfl, ho, hb1⟩
  obtain ⟨va, vc, -, rfl, -, hrs⟩ := oi_shape ho
  rw [htl] at ho ⊢
  have hbA := balloc (Below.refl w1.heap.size w1) (.cells #[.slice va l.length vc, .int .i64 n, .int .i64 k] 40)
  have hz1 := hb1.size
  have HR1 := Lib.hid (rds_mono (rds_bel hrs hbA) hbA.size)
  have HR2 := Lib.hid (rds_mono (rds_bel HRD.out (bnext hb1 hbA)) (Nat.le_trans hz1 hbA.size))
  clear ho hrs
  go_wp2_with fail
  refine (HWC.out va vc _ HR1.out HR2.out).mono ?_
  rintro e w2 ⟨v, rfl, ho, hb2⟩
  obtain ⟨ua, uc, rfl, hp, -⟩ := own_rdp ho
  obtain ⟨hcap, hcm⟩ := own_cap ho
  have hbC := balloc (Below.refl w2.heap.size w2) (.cells #[.slice ua l.length uc] 53)
  have HR3 := Lib.hid (rdp_mono (rdp_bel hp hbC) hbC.size)
  have hB2 := bnext (bnext hb1 hbA) hb2
  have hzC := hbC.size
  clear ho hp hb2 hbA
  go_wp2_with fail
  refine (HFC.out ua uc _ HR3.out hcap hcm).mono ?_
  rintro e w3 ⟨v, rfl, ho, hb3⟩
  obtain ⟨ta, tc, rfl, hp, -⟩ := own_rdp ho
  have HP := Lib.hid hp
  have hB3 := bnext (bnext hB2 hbC) hb3
  have hz3 := hB3.size
  clear ho hp hb3 hbC
  go_wp2_with fail
  refine (HNC.out ta tc _ HP.out).mono ?_
  rintro e w4 ⟨v, rfl, ho, hb4⟩
  rw [HT.out] at ho
  go_wp2_with fail
  go_returns
  exact ⟨_, rfl, oi_low ho hz3, bnext hB3 hb4⟩
theorem law_FirstApart (w : World) (n : Int) (_ : (Lit.int .i64 n).wf = true) (k : Int) (_ : (Lit.int .i64 k).wf = true) (cs : List Int) (a_cs : Option Addr) (c_cs : Nat) (h_cs : RdS w w.heap.size a_cs cs) :
    Calls Try.prog 9 #[.int .i64 n, .int .i64 k, .slice a_cs cs.length c_cs] w fun e w' => e = .returned (.bool true) ∧ Below w.heap.size w w' := by
  by_cases h : 1 ≤ n ∧ n ≤ 8 ∧ 1 ≤ k ∧ k ≤ n
  · obtain ⟨n', rfl⟩ := Int.eq_ofNat_of_zero_le (show 0 ≤ n by omega)
    obtain ⟨k', rfl⟩ := Int.eq_ofNat_of_zero_le (show 0 ≤ k by omega)
    by_cases hl : cs.length = (kS n' k').length
    · obtain ⟨r, hr⟩ := res_some (clS (kS n' k') cs) (kS n' k').length
      exact lawOf_FirstApart n' k' cs a_cs c_cs w h_cs _ _ (by cases r <;> simp [twoL]) (fun a c w' _ h' => specFirstApart_yes n' k' cs h hl r hr a c w' h') (fun a c w' _ h' => implFirstApart_yes n' k' cs h hl r hr a c w' h')
    · exact lawOf_FirstApart n' k' cs a_cs c_cs w h_cs [] false (by simp) (fun a c w' _ _ => specFirstApart_len n' k' cs h hl a c w') (fun a c w' _ _ => implFirstApart_len n' k' cs h hl a c w')
  · exact lawOf_FirstApart n k cs a_cs c_cs w h_cs [] false (by simp) (fun a c w' _ _ => specFirstApart_no n k cs h a c w') (fun a c w' _ h' => implFirstApart_no n k cs h a c w' h')
end Go.Proofs.Ytfhohmahckjpeaa
