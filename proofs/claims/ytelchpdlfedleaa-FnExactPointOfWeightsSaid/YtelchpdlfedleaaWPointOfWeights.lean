import Derived.Test.YtelchpdlfedleaaS41
namespace Go.Proofs.Ytelchpdlfedleaa
open Go.RowKit
set_option maxRecDepth 4000
def OutPointOfWeights (w : World) (r0 : List Int) (r1 : Bool) (e : Ending) (w' : World) : Prop := ∃ v0, e = .returned (.tuple #[v0, .bool r1]) ∧ OI w' w.heap.size w'.heap.size v0 r0 ∧ Below w.heap.size w w'
set_option maxHeartbeats 3200000 in
theorem lawOf_PointOfWeights (n : Int) (c : Int) (g : List Int) (a_g : Option Addr) (c_g : Nat) (w : World) (h_g : RdS w w.heap.size a_g g) (r0 : List Int) (r1 : Bool) (hL0 : r0.length ≤ 100000)
    (hs : ∀ (a_g' : Option Addr) (c_g' : Nat) (w' : World), g.length ≤ 1048576 → RdS w' w'.heap.size a_g' g → Calls Try.prog 43 #[.int .i64 n, .int .i64 c, .slice a_g' g.length c_g'] w' (OutPointOfWeights w' r0 r1))
    (hi : ∀ (a_g' : Option Addr) (c_g' : Nat) (w' : World), g.length ≤ 1048576 → RdS w' w'.heap.size a_g' g → Calls Try.prog 45 #[.int .i64 n, .int .i64 c, .slice a_g' g.length c_g'] w' (OutPointOfWeights w' r0 r1)) :
    Calls Try.prog 13 #[.int .i64 n, .int .i64 c, .slice a_g g.length c_g] w fun e w' => e = .returned (.bool true) ∧ Below w.heap.size w w' := by
  have HS := Lib.hid hs
  have HI := Lib.hid hi
  clear hs hi
  have hne1 : (r1 != r1) = false := by simp
  have hB0 : Below w.heap.size w w := Below.refl _ _
  by_cases hbig_g : (1048576 : Int) < (g.length : Int)
  · go_enter Try.func13, Try.ntmps13
    go_wp2_with fail
    go_ret
    exact ⟨rfl, Below.refl _ _⟩
  have hsz_g : g.length ≤ 1048576 := by omega
  go_enter Try.func13, Try.ntmps13
  go_wp2_with fail
  refine (toIntS_rd g a_g c_g _ _ h_g (by omega) hsz_g).mono ?_
  rintro e w1 ⟨v_gp, rfl, o_gp, hb⟩
  have hc := chg_below hb
  clear hb
  have z1 := hc.size
  replace h_g := rds_chg h_g hc (by omega) (by omega)
  replace hB0 := below_chg hB0 hc (by omega) (by omega)
  clear hc
  obtain ⟨a_gp, c_gp, _, rfl, -, rd_gp⟩ := oi_shape o_gp
  go_wp2_with fail
  refine (HS.out a_gp c_gp _ hsz_g (rds_mono rd_gp (by omega))).mono ?_
  rintro e w2 ⟨vs0, rfl, os0, hb⟩
  have hc := chg_below hb
  clear hb
  clear rd_gp
  have z2 := hc.size
  replace h_g := rds_chg h_g hc (by omega) (by omega)
  replace o_gp := oi_keep o_gp hc (by omega) (by omega)
  replace hB0 := below_chg hB0 hc (by omega) (by omega)
  clear hc
  obtain ⟨as0, cs0, -, rfl, -⟩ := oi_shape os0
  go_wp2_with fail
  clear o_gp
  refine (toIntS_rd g a_g c_g _ _ h_g (by omega) hsz_g).mono ?_
  rintro e w3 ⟨v_gx, rfl, o_gx, hb⟩
  have hc := chg_below hb
  clear hb
  have z3 := hc.size
  replace h_g := rds_chg h_g hc (by omega) (by omega)
  replace os0 := oi_keep os0 hc (by omega) (by omega)
  replace hB0 := below_chg hB0 hc (by omega) (by omega)
  clear hc
  obtain ⟨a_gx, c_gx, _, rfl, -, rd_gx⟩ := oi_shape o_gx
  go_wp2_with fail
  refine (HI.out a_gx c_gx _ hsz_g (rds_mono rd_gx (by omega))).mono ?_
  rintro e w4 ⟨vg0, rfl, og0, hb⟩
  have hc := chg_below hb
  clear hb
  clear rd_gx
  have z4 := hc.size
  replace h_g := rds_chg h_g hc (by omega) (by omega)
  replace os0 := oi_keep os0 hc (by omega) (by omega)
  replace o_gx := oi_keep o_gx hc (by omega) (by omega)
  replace hB0 := below_chg hB0 hc (by omega) (by omega)
  clear hc
  obtain ⟨ag0, cg0, -, rfl, -⟩ := oi_shape og0
  go_wp2_with fail
  refine (eqIntS_rd r0 ag0 as0 _ _ cg0 cs0 _ (oi_rds og0) (oi_rds os0)).mono ?_
  rintro e w5 ⟨rfl, hs⟩
  have hc := chg_same hs
  clear hs
  have z5 := hc.size
  replace h_g := rds_chg h_g hc (by omega) (by omega)
  replace os0 := oi_keep os0 hc (by omega) (by omega)
  replace o_gx := oi_keep o_gx hc (by omega) (by omega)
  replace og0 := oi_keep og0 hc (by omega) (by omega)
  replace hB0 := below_chg hB0 hc (by omega) (by omega)
  clear hc
  go_wp2_with fail
  refine (toIntS_rd g a_g c_g _ _ h_g (by omega) hsz_g).mono ?_
  rintro e w6 ⟨v_gy, rfl, o_gy, hb⟩
  have hc := chg_below hb
  clear hb
  have z6 := hc.size
  replace h_g := rds_chg h_g hc (by omega) (by omega)
  replace os0 := oi_keep os0 hc (by omega) (by omega)
  replace o_gx := oi_keep o_gx hc (by omega) (by omega)
  replace og0 := oi_keep og0 hc (by omega) (by omega)
  replace hB0 := below_chg hB0 hc (by omega) (by omega)
  clear hc
  obtain ⟨a_gy, c_gy, -, rfl, -⟩ := oi_shape o_gy
  go_wp2_with fail
  refine (eqIntS_rd g a_gx a_gy _ _ c_gx c_gy _ (oi_rds o_gx) (oi_rds o_gy)).mono ?_
  rintro e w7 ⟨rfl, hs⟩
  have hc := chg_same hs
  clear hs
  have z7 := hc.size
  replace h_g := rds_chg h_g hc (by omega) (by omega)
  replace os0 := oi_keep os0 hc (by omega) (by omega)
  replace o_gx := oi_keep o_gx hc (by omega) (by omega)
  replace og0 := oi_keep og0 hc (by omega) (by omega)
  replace o_gy := oi_keep o_gy hc (by omega) (by omega)
  replace hB0 := below_chg hB0 hc (by omega) (by omega)
  clear hc
  go_wp2_with fail
  clear o_gy
  refine (markIntS_chg g a_gx _ _ c_gx _ _ o_gx (by omega) (by omega)).mono ?_
  rintro e w8 ⟨rfl, -, hc⟩
  clear o_gx
  have z8 := hc.size
  replace h_g := rds_chg h_g hc (by omega) (by omega)
  replace os0 := oi_keep os0 hc (by omega) (by omega)
  replace og0 := oi_keep og0 hc (by omega) (by omega)
  replace hB0 := below_chg hB0 hc (by omega) (by omega)
  clear hc
  go_wp2_with fail
  refine (eqIntS_rd r0 ag0 as0 _ _ cg0 cs0 _ (oi_rds og0) (oi_rds os0)).mono ?_
  rintro e w9 ⟨rfl, hs⟩
  have hc := chg_same hs
  clear hs
  have z9 := hc.size
  replace h_g := rds_chg h_g hc (by omega) (by omega)
  replace os0 := oi_keep os0 hc (by omega) (by omega)
  replace og0 := oi_keep og0 hc (by omega) (by omega)
  replace hB0 := below_chg hB0 hc (by omega) (by omega)
  clear hc
  go_wp2_with fail
  refine (markIntS_chg r0 ag0 _ _ cg0 1 _ og0 (by omega) (by omega)).mono ?_
  rintro e w10 ⟨rfl, om0, hc⟩
  have hlm0 : (mkd 1 r0.length r0).length = r0.length := mkd_len _ _ _ (Nat.le_refl _)
  have HLM0 := Lib.hid hlm0
  clear hlm0
  clear og0
  have z10 := hc.size
  replace h_g := rds_chg h_g hc (by omega) (by omega)
  replace os0 := oi_keep os0 hc (by omega) (by omega)
  replace hB0 := below_chg hB0 hc (by omega) (by omega)
  clear hc
  go_wp2_with fail
  refine (heldIntS_rd r0 1 ag0 _ _ cg0 _ HLM0.out (oi_rds2 om0) (by omega) (by omega)).mono ?_
  rintro e w' ⟨rfl, rfl⟩
  go_wp2_with fail
  refine (toIntS_rd g a_g c_g _ _ h_g (by omega) hsz_g).mono ?_
  rintro e w11 ⟨v_gz, rfl, o_gz, hb⟩
  have hc := chg_below hb
  clear hb
  have z11 := hc.size
  replace h_g := rds_chg h_g hc (by omega) (by omega)
  replace os0 := oi_keep os0 hc (by omega) (by omega)
  replace om0 := oi_keep om0 hc (by omega) (by omega)
  replace hB0 := below_chg hB0 hc (by omega) (by omega)
  clear hc
  obtain ⟨a_gz, c_gz, _, rfl, -, rd_gz⟩ := oi_shape o_gz
  go_wp2_with fail
  refine (HI.out a_gz c_gz _ hsz_g (rds_mono rd_gz (by omega))).mono ?_
  rintro e w12 ⟨vh0, rfl, oh0, hb⟩
  have hc := chg_below hb
  clear hb
  clear rd_gz
  have z12 := hc.size
  replace h_g := rds_chg h_g hc (by omega) (by omega)
  replace os0 := oi_keep os0 hc (by omega) (by omega)
  replace om0 := oi_keep om0 hc (by omega) (by omega)
  replace o_gz := oi_keep o_gz hc (by omega) (by omega)
  replace hB0 := below_chg hB0 hc (by omega) (by omega)
  clear hc
  obtain ⟨ah0, ch0, -, rfl, -⟩ := oi_shape oh0
  go_wp2_with fail
  clear o_gz
  refine (eqIntS_rd r0 ah0 as0 _ _ ch0 cs0 _ (oi_rds oh0) (oi_rds os0)).mono ?_
  rintro e w13 ⟨rfl, hs⟩
  have hc := chg_same hs
  clear hs
  have z13 := hc.size
  replace h_g := rds_chg h_g hc (by omega) (by omega)
  replace os0 := oi_keep os0 hc (by omega) (by omega)
  replace om0 := oi_keep om0 hc (by omega) (by omega)
  replace oh0 := oi_keep oh0 hc (by omega) (by omega)
  replace hB0 := below_chg hB0 hc (by omega) (by omega)
  clear hc
  go_wp2_with fail
  refine (heldIntS_rd r0 1 ag0 _ _ cg0 _ HLM0.out (oi_rds2 om0) (by omega) (by omega)).mono ?_
  rintro e w' ⟨rfl, rfl⟩
  go_wp2_with fail
  go_ret
  exact ⟨rfl, hB0⟩
set_option maxHeartbeats 3200000 in
theorem specPointOfWeights_yes (n k : Nat) (h1 : 1 ≤ n) (h2 : n ≤ 5) (hk : k < (ci n).length) (xs : List Int) (hg : gvB xs = true) (a : Option Addr) (cap : Nat) (w : World) (h : RdS w w.heap.size a xs) :
    Calls Try.prog 43 #[.int .i64 n, .int .i64 k, .slice a xs.length cap] w (OutPointOfWeights w (mxr (wf xs) (ptW n k) 3 0) true) := by
  obtain ⟨hlen, -⟩ := ci_cq n (by omega)
  have hsq := sqw n (by omega)
  have hnn64 : n * n ≤ 64 := Nat.mul_le_mul (show n ≤ 8 by omega) (show n ≤ 8 by omega)
  rw [← hlen] at hsq hnn64
  have HG := Lib.hid (fun w' (hs : Same w w') => fxGiven_any xs a cap _ w' (rds_same h hs))
  have HG0 : Hid (gvB xs = true) := Lib.hid hg
  have he := Lib.hid (ci_eq n (by omega) h1)
  have h45 := cnt21 n h2
  have HC := Lib.hid (fun j (hj : j < 3) => cq_lt n k (by omega) hk j hj)
  have HX := Lib.hid (fun w' a' cap' (hb : Below w.heap.size w w') hP => fxMix_any ((List.range 3).map (ptL n k)) xs (ptW n k) (pt_ok n k) (gvB_yes hg).1 (ptw_small n k h2 hk xs hg) a' a cap' cap w' hP (rds_mono (rds_later h hb) hb.size))
  have HT : Hid (∀ j, ((List.range (j + 1)).map (ptL n k)) = (List.range j).map (ptL n k) ++ [ptL n k j]) := Lib.hid (fun j => by rw [List.range_succ, List.map_append]; rfl)
  have hki : (k : Int) < ((ci n).length : Int) := by omega
  clear h hg hlen
  go_enter Try.func43, Try.ntmps43
  go_wp2_with fail
  refine (fxSide_yes n ⟨by omega, by omega⟩ _).mono ?_
  rintro e w' ⟨rfl, rfl⟩
  go_wp2_with fail
  refine (l1In_yes k 0 _ ⟨by omega, by omega⟩ _).mono ?_
  rintro e w' ⟨rfl, rfl⟩
  go_wp2_with fail
  refine (HG.out _ (Same.refl _)).mono ?_
  rintro e w1 ⟨rfl, hs⟩
  rw [HG0.out]
  have hB1 := hs w.heap.size
  clear hs
  go_wp2_with fail
  refine (meCells_any n h1 (by omega) _).mono ?_
  rintro e w2 ⟨v, rfl, hc, hb2⟩
  rw [← he.out] at hc
  obtain ⟨sa, m, sc, rfl⟩ := cells_shape hc
  obtain ⟨rfl, g, rc, rb, rfl, hgl, c1, hrd, hrb⟩ := spec_cell6 (by omega) hc hk
  have hB2 := bnext hB1 hb2
  have hzz := hB2.size
  have HRD : Hid (∀ j, j < 3 → w2.cell? ⟨rb, j, none⟩ = some (.int .i64 (cq n k j : Nat))) := Lib.hid (fun j hj => by
    have e := (hrd.2 j (by simp [cl]; omega)).2
    rw [Nat.zero_add] at e
    rcases (by omega : j = 0 ∨ j = 1 ∨ j = 2) with rfl | rfl | rfl <;> exact e)
  clear hc hb2 hrd
  go_wp2_with fail
  go_loopw [8, 34] (fun v8 v34 wr => ∃ j : Nat, j ≤ 3 ∧ v34 = .int .i64 j ∧ CellsV wr w2.heap.size v8 ((List.range j).map (ptL n k)) ∧ Below w2.heap.size w2 wr) (fun _ v34 _ => 3 - (intOf v34).toNat)
  case atStart => exact ⟨0, by omega, rfl, cells_nil _ _, Below.refl _ _⟩
  case round =>
    obtain ⟨j, hj, rfl, ho, hb⟩ := hrel
    obtain ⟨wq, rfl⟩ : ∃ wq : World, wq = wr := ⟨_, rfl⟩
    by_cases hltj : j < 3
    · have cj := (hb.cell (p := ⟨rb, j, none⟩) hrb).trans (HRD.out j hltj)
      have hcj := HC.out j hltj
      have hji : (j : Int) < 3 := by omega
      have HTj := Lib.hid (HT.out j)
      have hlj : ((List.range j).map (ptL n k)).length ≤ 3 := by rw [List.length_map, List.length_range]; omega
      have hzq := hb.size
      obtain ⟨cj', hcj'⟩ : ∃ q, q = cq n k j := ⟨_, rfl⟩
      have HPL : Hid (ptL n k j = [pq n cj' 0, pq n cj' 1, pq n cj' 2]) := Lib.hid (by rw [hcj']; rfl)
      rw [← hcj'] at cj hcj
      clear hcj'
      go_wp2_with fail
      refine (meAt_any n cj' h1 (by omega) (by omega) _).mono ?_
      rintro e w3 ⟨rfl, hw3⟩
      have hB3 : Below wq.heap.size wq w3 := by rw [hw3]; exact balloc (Below.refl _ _) _
      have hu : w3.ownsRow wq.heap.size 3 1 (.slice (some ⟨wq.heap.size, 0, none⟩) 3 3) (ptL n k j).length ((ptL n k j).map (Value.int .i64)) := by
        rw [hw3, HPL.out]
        exact own_block (cap := 3) (xs := [pq n cj' 0, pq n cj' 1, pq n cj' 2]) (Nat.le_refl _) (heap_alloc_new wq _) rfl rfl (by simp [maxLen])
      clear hw3
      go_wp2_with (at_builtin; refine append_row w2.heap.size _ wq w3 _ _ ((List.range j).map (ptL n k)) (ptL n k j) rfl _ _ rfl rfl rfl rfl ho hB3 hu rfl hzq (by omega) ?_; intro v' w5 hc5 hb5)
      go_roundw
      case rel => exact ⟨j + 1, by omega, by go_num, by rw [HTj.out]; exact hc5, (hb.trans (hB3.mono hzq)).trans hb5⟩
      case measure => simp [intOf]; omega
    · have hj3 : j = 3 := by omega
      subst hj3
      obtain ⟨pa, pc, rfl, hrr⟩ := oss_shape (oss_new ho)
      have HXX := Lib.hid (HX.out wq pa pc (bnext hB2 hb) hrr)
      have hBq := bnext hB2 hb
      have hzq := hBq.size
      clear ho hrr
      go_wp2_with fail
      refine HXX.out.mono ?_
      rintro e w6 ⟨v, rfl, ho6, hb6⟩
      obtain ⟨va, vc, vb, rfl, -, -⟩ := oi_shape ho6
      go_wp2_with fail
      go_returns
      obtain ⟨et, ho1, ho2⟩ := ho6
      exact ⟨_, rfl, ⟨et, own_base ho1 hzq, ho2⟩, bnext hBq hb6⟩
set_option maxHeartbeats 3200000 in
theorem implPointOfWeights_yes (n k : Nat) (h1 : 1 ≤ n) (h2 : n ≤ 5) (hk : k < (ci n).length) (xs : List Int) (hg : gvB xs = true) (a : Option Addr) (cap : Nat) (w : World) (h : RdS w w.heap.size a xs) :
    Calls Try.prog 45 #[.int .i64 n, .int .i64 k, .slice a xs.length cap] w (OutPointOfWeights w (mxr (wf xs) (ptW n k) 3 0) true) := by
  have h45 := cnt21 n h2
  have hp := cq_lt n k (by omega) hk 0 (by omega)
  have hq := cq_lt n k (by omega) hk 1 (by omega)
  have hr := cq_lt n k (by omega) hk 2 (by omega)
  have HM := Lib.hid (mappedMeshOf_yes n h1 h2)
  have HW := Lib.hid (fun w' (hb : Below w.heap.size w w') => weightsOf_any xs a cap _ w' (rds_later h hb) hb.size)
  rw [wtV_yes hg, hg] at HW
  have HC : Hid (∀ w, Calls Try.prog 81 #[.agg #[.int .i64 n], .int .i64 k] w fun e w' => e = .returned (.tuple #[.agg #[.int .i64 (cq n k 0 : Nat), .int .i64 (cq n k 1 : Nat), .int .i64 (cq n k 2 : Nat)], .bool true]) ∧ Below w.heap.size w w') := Lib.hid (cellAt_yes n k h1 (by omega) hk)
  have HO : Hid (∀ w, Calls Try.prog 82 #[.agg #[.int .i64 (cq n k 0 : Nat), .int .i64 (cq n k 1 : Nat), .int .i64 (cq n k 2 : Nat)], .func (.func 83) #[.agg #[.int .i64 n]] #[]] w fun e w' => e = .returned (.agg (nine (ptW n k))) ∧ Below w.heap.size w w') := Lib.hid (fun w => corners_spot 83 (.agg #[.int .i64 n]) (fun _ _ => rfl) (cq n k 0 : Nat) (cq n k 1 : Nat) (cq n k 2 : Nat) (pq n (cq n k 0) 0) (pq n (cq n k 0) 1) (pq n (cq n k 0) 2) (pq n (cq n k 1) 0) (pq n (cq n k 1) 1) (pq n (cq n k 1) 2) (pq n (cq n k 2) 0) (pq n (cq n k 2) 1) (pq n (cq n k 2) 2) (fun w => spotAt_any n (cq n k 0) h1 (by omega) (by omega) w) (fun w => spotAt_any n (cq n k 1) h1 (by omega) (by omega) w) (fun w => spotAt_any n (cq n k 2) h1 (by omega) (by omega) w) w)
  have HX := Lib.hid (fun b cap ty w hg' => wmix_any (wf xs) (ptW n k) (ptw_small n k h2 hk xs hg) b cap ty w hg')
  have hmf : ∀ (fn : Fn) (first cap : Array Value) (w : World), (Instr.makeFunc fn first cap).run Try.prog w = .ok (.func fn first cap) w := fun _ _ _ _ => rfl
  clear hp hq hr h hg
  have hNs : (nine (ptW n k)).size = 9 := rfl
  have hNo : (nine (ptW n k)).all (·.oneCell') = true := n9_one _ _ _ _ _ _ _ _ _
  generalize nine (ptW n k) = N9 at *
  generalize mxr (wf xs) (ptW n k) 3 0 = res at *
  generalize wf xs 0 = x at *
  generalize wf xs 1 = y at *
  generalize wf xs 2 = z at *
  go_enter Try.func45, Try.ntmps45
  go_wp2_with fail
  refine (HM.out _).mono ?_
  rintro e w1 ⟨rfl, hb1⟩
  have hB1 := balloc hb1 (.cells #[.int .i64 n] 48)
  have hg1 := heap_alloc_new w1 (.cells #[.int .i64 n] 48)
  have hz1 : (w1.alloc (.cells #[.int .i64 n] 48)).heap.size = w1.heap.size + 1 := by simp
  go_wp2_with fail
  refine (HW.out _ hB1).mono ?_
  rintro e w2 ⟨rfl, hb2⟩
  have hm2 := (hb2.block w1.heap.size (by omega)).trans hg1
  have hB2 := bnext hB1 hb2
  have hz2 := hB2.size
  clear hb1 hb2 hg1 hz1 hB1
  go_wp2_with (first | (with_reducible refine alloc_blk zspot run_alloc_wt rfl rfl ?_) | ((with_reducible refine store_blk blkWt rfl _ _ rfl (w2.heap.size) (spA3 x y z) (zspot) ?_ ?_ (heap_alloc_new _ _) (zspot_size) (spA3_size _ _ _) (spA3_one _ _ _) (w2.heap.size) (by omega) ?_); exact rfl; exact rfl; intro w3 hg3 hb3 hk3 hz3; have hb3' : Below w2.heap.size w2 w3 := (balloc (Below.refl w2.heap.size w2) (.cells zspot 74)).trans hb3; have hB3 := hB2.trans (hb3'.mono hz2); have hm3 := heap_later hm2 hb3'; have mc3 := cell_of_row w3 w1.heap.size 0 _ _ (0, 0) hm3))
  refine (HC.out _).mono ?_
  rintro e w4 ⟨rfl, hb4⟩
  have hm4 := heap_later hm3 hb4
  have mc4 := cell_of_row w4 w1.heap.size 0 _ _ (0, 0) hm4
  have hg4 := heap_later hg3 hb4
  have hB4 := bnext hB3 hb4
  have hz4 := hB4.size
  have hl4 : w1.heap.size < w4.heap.size := (Array.getElem?_eq_some_iff.1 hm4).1
  clear hb4 hm3 mc3 hg3 hb3 hk3 hz3 hb3' hB3 hm2 hB2
  go_wp2_with fail
  refine (HO.out _).mono ?_
  rintro e w5 ⟨rfl, hb5⟩
  have hg5 := heap_later (heap_later hg4 (balloc (Below.refl w4.heap.size w4) (.cells #[.int .i64 (cq n k 0 : Nat), .int .i64 (cq n k 1 : Nat), .int .i64 (cq n k 2 : Nat)] 61))) hb5
  have hB5 := bnext (balloc hB4 (.cells #[.int .i64 (cq n k 0 : Nat), .int .i64 (cq n k 1 : Nat), .int .i64 (cq n k 2 : Nat)] 61)) hb5
  have hz5 := hB5.size
  clear hb5 hg4 hm4 mc4 hB4 hl4
  go_wp2_with (first | (with_reducible refine alloc_blk z9 run_alloc9_spot rfl rfl ?_) | ((with_reducible refine store_blk blk9_spot rfl _ _ rfl (w5.heap.size) (N9) (z9) ?_ ?_ (heap_alloc_new _ _) (z9_size) (hNs) (hNo) (w5.heap.size) (by omega) ?_); exact rfl; exact rfl; intro w6 hg6 hb6 hk6 hz6; have hb6' : Below w5.heap.size w5 w6 := (balloc (Below.refl w5.heap.size w5) (.cells z9 93)).trans hb6; have hB6 := hB5.trans (hb6'.mono hz5); have hw6 := heap_later hg5 hb6'))
  have HXX := Lib.hid (fun w' (hb : Below w6.heap.size w6 w') => HX.out w5.heap.size 3 _ w' (heap_later hg6 hb))
  have hz6' := hB6.size
  refine wp_region_mix (fun w' => Below w6.heap.size w6 w') [2] [0, 1, 2, 3, 4] (by kernel_rfl) (by kernel_rfl) (fun _ _ d _ _ h => by cases d <;> exact h) (by kernel_rfl) rfl ((Same.refl w6).drew _) ?_
  refine mix_take 0 _ (.agg (spA3 x y z)) rfl rfl rfl (some 43) rfl (fun w' hw' => exec_row _ _ rfl (w2.heap.size) rfl (spA3 x y z) (blk_load blkWt w' _ _ (heap_later hw6 (hw' : Below w6.heap.size w6 w')) (spA3_size _ _ _))) ?_
  simp only [Act.put, List.setIfInBounds_toArray, List.set_cons_zero, List.set_cons_succ]
  refine mix_take 1 _ ?_ rfl rfl rfl (some 44) rfl (fun w' hw' => ?hv1) ?_
  case hv1 =>
    go_simp
    with_reducible rfl
  simp only [Act.put, List.setIfInBounds_toArray, List.set_cons_zero, List.set_cons_succ]
  refine mix_call 2 _ rfl rfl rfl 84 #[.agg (spA3 x y z), .slice (some ⟨w5.heap.size, 0, none⟩) 3 3] (some 45) rfl ?hr2 ?_
  case hr2 => go_simp
  refine (HXX.out _ ((Same.refl w6).drew _)).mono ?_
  rintro e w7 ⟨v, rfl, ho7, hb7⟩
  have hb7' : Below w6.heap.size w6 w7 := ((Same.refl w6).drew w6.heap.size).trans hb7
  refine ⟨_, rfl, hb7', ?_⟩
  simp only [Act.put, List.setIfInBounds_toArray, List.set_cons_zero, List.set_cons_succ]
  refine mix_take 3 _ ?_ rfl rfl rfl (some 6) rfl (fun w' hw' => ?hv3) ?_
  case hv3 =>
    go_simp
    with_reducible rfl
  simp only [Act.put, List.setIfInBounds_toArray, List.set_cons_zero, List.set_cons_succ]
  refine mix_take 4 _ ?_ rfl rfl rfl (some 7) rfl (fun w' hw' => ?hv4) ?_
  case hv4 =>
    go_simp
    with_reducible rfl
  simp only [Act.put, List.setIfInBounds_toArray, List.set_cons_zero, List.set_cons_succ]
  refine mix_done ?_
  obtain ⟨va, vc, vb, rfl, -, -⟩ := oi_shape ho7
  go_wp2_with fail
  go_returns
  obtain ⟨et, ho1, ho2⟩ := ho7
  exact ⟨_, rfl, ⟨et, own_base ho1 hz6', ho2⟩, bnext hB6 hb7'⟩
set_option maxHeartbeats 800000 in
theorem specPointOfWeights_no (n c : Int) (xs : List Int) (hno : (okP n c && gvB xs) = false) (a : Option Addr) (cap : Nat) (w : World) (h : RdS w w.heap.size a xs) :
    Calls Try.prog 43 #[.int .i64 n, .int .i64 c, .slice a xs.length cap] w (OutPointOfWeights w [] false) := by
  by_cases hs : 1 ≤ n ∧ n ≤ 5
  · obtain ⟨h1, h2⟩ := hs
    obtain ⟨n, rfl⟩ := Int.eq_ofNat_of_zero_le (show 0 ≤ n by omega)
    have h1 : 1 ≤ n := by omega
    have h2 : n ≤ 5 := by omega
    obtain ⟨hlen, -⟩ := ci_cq n (by omega)
    have hsq := sqw n (by omega)
    have hnn64 : n * n ≤ 64 := Nat.mul_le_mul (show n ≤ 8 by omega) (show n ≤ 8 by omega)
    rw [← hlen] at hsq hnn64
    have HG := Lib.hid (fun w' (hs : Same w w') => fxGiven_any xs a cap _ w' (rds_same h hs))
    clear h hlen
    by_cases hk : 0 ≤ c ∧ c ≤ ((ci n).length : Int) - 1
    · have HG0 : Hid (gvB xs = false) := Lib.hid (by
        have e : okP n c = true := by
          simp only [okP, Bool.and_eq_true, decide_eq_true_eq, Int.toNat_natCast]
          omega
        rw [e] at hno
        exact hno)
      clear hno
      go_enter Try.func43, Try.ntmps43
      go_wp2_with fail
      refine (fxSide_yes n ⟨by omega, by omega⟩ _).mono ?_
      rintro e w' ⟨rfl, rfl⟩
      go_wp2_with fail
      refine (l1In_yes c 0 _ hk _).mono ?_
      rintro e w' ⟨rfl, rfl⟩
      go_wp2_with fail
      refine (HG.out _ (Same.refl _)).mono ?_
      rintro e w1 ⟨rfl, hs⟩
      rw [HG0.out]
      go_wp2_with fail
      go_returns
      exact ⟨_, rfl, oi_nil _ _ _, hs _⟩
    · clear hno
      go_enter Try.func43, Try.ntmps43
      go_wp2_with fail
      refine (fxSide_yes n ⟨by omega, by omega⟩ _).mono ?_
      rintro e w' ⟨rfl, rfl⟩
      go_wp2_with fail
      refine (l1In_no c 0 _ hk _).mono ?_
      rintro e w' ⟨rfl, rfl⟩
      go_wp2_with fail
      go_returns
      exact ⟨_, rfl, oi_nil _ _ _, Below.refl _ _⟩
  · clear h hno
    go_enter Try.func43, Try.ntmps43
    go_wp2_with fail
    refine (fxSide_no n hs _).mono ?_
    rintro e w' ⟨rfl, rfl⟩
    go_wp2_with fail
    go_returns
    exact ⟨_, rfl, oi_nil _ _ _, Below.refl _ _⟩
set_option maxHeartbeats 800000 in
theorem implPointOfWeights_no (n c : Int) (xs : List Int) (hno : (okP n c && gvB xs) = false) (a : Option Addr) (cap : Nat) (w : World) (h : RdS w w.heap.size a xs) :
    Calls Try.prog 45 #[.int .i64 n, .int .i64 c, .slice a xs.length cap] w (OutPointOfWeights w [] false) := by
  have HW := Lib.hid (fun w' (hb : Below w.heap.size w w') => weightsOf_any xs a cap _ w' (rds_later h hb) hb.size)
  have hVs := wtV_size xs
  have hVo := wtV_one xs
  clear h
  generalize wtV xs = V at *
  by_cases hs : 1 ≤ n ∧ n ≤ 5
  · have HM := Lib.hid (mappedMeshOf_any n true (by simp; omega) true (by simp; omega) (by
      obtain ⟨m, rfl⟩ := Int.eq_ofNat_of_zero_le (show 0 ≤ n by omega)
      exact meshOf_yes m (by omega) (by omega)))
    cases hg : gvB xs
    · rw [hg] at HW
      clear hg hno hs
      go_enter Try.func45, Try.ntmps45
      go_wp2_with fail
      refine (HM.out _).mono ?_
      rintro e w1 ⟨rfl, hb1⟩
      have hB1 := balloc hb1 (.cells #[.int .i64 n] 48)
      go_wp2_with fail
      refine (HW.out _ hB1).mono ?_
      rintro e w2 ⟨rfl, hb2⟩
      have hB2 := bnext hB1 hb2
      have hz2 := hB2.size
      clear hb1 hb2 hB1
      go_wp2_with (first | (with_reducible refine alloc_blk zspot run_alloc_wt rfl rfl ?_) | ((with_reducible refine store_blk blkWt rfl _ _ rfl (w2.heap.size) (V) (zspot) ?_ ?_ (heap_alloc_new _ _) (zspot_size) (hVs) (hVo) (w2.heap.size) (by omega) ?_); exact rfl; exact rfl; intro w3 hg3 hb3 hk3 hz3; have hb3' : Below w2.heap.size w2 w3 := (balloc (Below.refl w2.heap.size w2) (.cells zspot 74)).trans hb3; have hB3 := hB2.trans (hb3'.mono hz2)))
      go_returns
      exact ⟨_, rfl, oi_nil _ _ _, hB3⟩
    · obtain ⟨m, rfl⟩ := Int.eq_ofNat_of_zero_le (show 0 ≤ n by omega)
      have HC : Hid (∀ w, Calls Try.prog 81 #[.agg #[.int .i64 m], .int .i64 c] w fun e w' => e = .returned (.tuple #[.agg #[.int .i64 0, .int .i64 0, .int .i64 0], .bool false]) ∧ Below w.heap.size w w') := Lib.hid (cellAt_no m c (by omega) (by omega) (fun hk => by
        have e : okP m c = true := by
          simp only [okP, Bool.and_eq_true, decide_eq_true_eq, Int.toNat_natCast]
          omega
        rw [e, hg] at hno
        cases hno))
      rw [hg] at HW
      clear hg hno hs
      go_enter Try.func45, Try.ntmps45
      go_wp2_with fail
      refine (HM.out _).mono ?_
      rintro e w1 ⟨rfl, hb1⟩
      have hB1 := balloc hb1 (.cells #[.int .i64 m] 48)
      have hg1 := heap_alloc_new w1 (.cells #[.int .i64 m] 48)
      have hz1 : (w1.alloc (.cells #[.int .i64 m] 48)).heap.size = w1.heap.size + 1 := by simp
      go_wp2_with fail
      refine (HW.out _ hB1).mono ?_
      rintro e w2 ⟨rfl, hb2⟩
      have hm2 := (hb2.block w1.heap.size (by omega)).trans hg1
      have hB2 := bnext hB1 hb2
      have hz2 := hB2.size
      clear hb1 hb2 hB1 hg1 hz1
      go_wp2_with (first | (with_reducible refine alloc_blk zspot run_alloc_wt rfl rfl ?_) | ((with_reducible refine store_blk blkWt rfl _ _ rfl (w2.heap.size) (V) (zspot) ?_ ?_ (heap_alloc_new _ _) (zspot_size) (hVs) (hVo) (w2.heap.size) (by omega) ?_); exact rfl; exact rfl; intro w3 hg3 hb3 hk3 hz3; have hb3' : Below w2.heap.size w2 w3 := (balloc (Below.refl w2.heap.size w2) (.cells zspot 74)).trans hb3; have hB3 := hB2.trans (hb3'.mono hz2); have hm3 := heap_later hm2 hb3'; have mc3 := cell_of_row w3 w1.heap.size 0 _ _ (0, 0) hm3))
      refine (HC.out _).mono ?_
      rintro e w4 ⟨rfl, hb4⟩
      have hB4 := bnext hB3 hb4
      go_wp2_with fail
      go_returns
      exact ⟨_, rfl, oi_nil _ _ _, balloc hB4 _⟩
  · have HM := Lib.hid (mappedMeshOf_no n hs)
    generalize gvB xs = bb at *
    clear hno hs
    go_enter Try.func45, Try.ntmps45
    go_wp2_with fail
    refine (HM.out _).mono ?_
    rintro e w1 ⟨rfl, hb1⟩
    have hB1 := balloc hb1 (.cells #[.int .i64 n] 48)
    go_wp2_with fail
    refine (HW.out _ hB1).mono ?_
    rintro e w2 ⟨rfl, hb2⟩
    have hB2 := bnext hB1 hb2
    have hz2 := hB2.size
    clear hb1 hb2 hB1
    go_wp2_with (first | (with_reducible refine alloc_blk zspot run_alloc_wt rfl rfl ?_) | ((with_reducible refine store_blk blkWt rfl _ _ rfl (w2.heap.size) (V) (zspot) ?_ ?_ (heap_alloc_new _ _) (zspot_size) (hVs) (hVo) (w2.heap.size) (by omega) ?_); exact rfl; exact rfl; intro w3 hg3 hb3 hk3 hz3; have hb3' : Below w2.heap.size w2 w3 := (balloc (Below.refl w2.heap.size w2) (.cells zspot 74)).trans hb3; have hB3 := hB2.trans (hb3'.mono hz2)))
    go_returns
    exact ⟨_, rfl, oi_nil _ _ _, hB3⟩
theorem mxr_small (W : Nat → Int) (P : Nat → Nat → Int) : (mxr W P 3 0).length ≤ 100000 := by rw [mxr_len]; omega
theorem law_PointOfWeights (w : World) (n : Int) (_ : (Lit.int .i64 n).wf = true) (c : Int) (_ : (Lit.int .i64 c).wf = true) (g : List Int) (a_g : Option Addr) (c_g : Nat) (h_g : RdS w w.heap.size a_g g) :
    Calls Try.prog 13 #[.int .i64 n, .int .i64 c, .slice a_g g.length c_g] w fun e w' => e = .returned (.bool true) ∧ Below w.heap.size w w' := by
  cases h : (okP n c && gvB g)
  · exact lawOf_PointOfWeights n c g a_g c_g w h_g _ _ (by simp) (fun a c' w' _ h' => specPointOfWeights_no n c g h a c' w' h') (fun a c' w' _ h' => implPointOfWeights_no n c g h a c' w' h')
  · rw [Bool.and_eq_true] at h
    obtain ⟨n, k, rfl, rfl, h1, h2, hk⟩ := okP_yes h.1
    exact lawOf_PointOfWeights n k g a_g c_g w h_g _ _ (mxr_small _ _) (fun a c w' _ h' => specPointOfWeights_yes n k h1 h2 hk g h.2 a c w' h') (fun a c w' _ h' => implPointOfWeights_yes n k h1 h2 hk g h.2 a c w' h')
end Go.Proofs.Ytelchpdlfedleaa
