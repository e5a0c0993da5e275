import Derived.LoopN
import Derived.BigRegion
import Derived.BigQuiet
import Derived.RegionTactic
import Derived.Test.YtlkgmnmnlfaopaaS45
import Derived.Test.YtlkgmnmnlfaopaaZk
namespace Go.Proofs.Ytlkgmnmnlfaopaa
open Go.RowKit
set_option maxRecDepth 4000
def OutConstantImages (w : World) (r0 : List (List Int)) (r1 : Bool) (e : Ending) (w' : World) : Prop := ∃ v0, e = .returned (.tuple #[v0, .bool r1]) ∧ OSS w' w.heap.size w'.heap.size v0 r0 ∧ Below w.heap.size w w'
set_option maxHeartbeats 3200000 in
theorem lawOf_ConstantImages (n : Int) (xs : List Int) (a_xs : Option Addr) (c_xs : Nat) (w : World) (h_xs : RdS w w.heap.size a_xs xs) (r0 : List (List Int)) (r1 : Bool) (hL0 : r0.length ≤ 100000) (hR0 : ∀ k, (r0.getD k []).length ≤ 1000)
    (hs : ∀ (a_xs' : Option Addr) (c_xs' : Nat) (w' : World), xs.length ≤ 1048576 → RdS w' w'.heap.size a_xs' xs → Calls Try.prog 49 #[.int .i64 n, .slice a_xs' xs.length c_xs'] w' (OutConstantImages w' r0 r1))
    (hi : ∀ (a_xs' : Option Addr) (c_xs' : Nat) (w' : World), xs.length ≤ 1048576 → RdS w' w'.heap.size a_xs' xs → Calls Try.prog 50 #[.int .i64 n, .slice a_xs' xs.length c_xs'] w' (OutConstantImages w' r0 r1)) :
    Calls Try.prog 13 #[.int .i64 n, .slice a_xs xs.length c_xs] w fun e w' => e = .returned (.bool true) ∧ Below w.heap.size w w' := by
  have HS := Lib.hid hs
  have HI := Lib.hid hi
  clear hs hi
  have hne1 : (r1 != r1) = false := by simp
  obtain ⟨ls0, hls0, hsm0, hln0⟩ : ∃ ls : List Nat, Lens ls r0 ∧ (∀ i, ls.getD i 0 ≤ 1000) ∧ ls.length ≤ 100000 := ⟨r0.map List.length, lens_self r0, fun i => by rw [← (lens_self r0).2 i]; exact hR0 i, by simpa using hL0⟩
  have HLS0 := Lib.hid hls0
  have HSM0 := Lib.hid (show ∀ j, ls0.getD j 0 ≤ 1048576 from fun j => Nat.le_trans (hsm0 j) (by omega))
  have hto0 : offs ls0 ls0.length ≤ 100000000 := Nat.le_trans (offs_le ls0 hsm0 ls0.length) (by omega)
  clear hls0 hsm0 hR0
  have hB0 : Below w.heap.size w w := Below.refl _ _
  by_cases hbig_xs : (1048576 : Int) < (xs.length : Int)
  · go_enter Try.func13, Try.ntmps13
    go_wp2_with fail
    go_ret
    exact ⟨rfl, Below.refl _ _⟩
  have hsz_xs : xs.length ≤ 1048576 := by omega
  go_enter Try.func13, Try.ntmps13
  go_wp2_with fail
  refine (toIntS_rd xs a_xs c_xs _ _ h_xs (by omega) hsz_xs).mono ?_
  rintro e w1 ⟨v_xsp, rfl, o_xsp, hb⟩
  have hc := chg_below hb
  clear hb
  have z1 := hc.size
  replace h_xs := rds_chg h_xs hc (by omega) (by omega)
  replace hB0 := below_chg hB0 hc (by omega) (by omega)
  clear hc
  obtain ⟨a_xsp, c_xsp, _, rfl, -, rd_xsp⟩ := oi_shape o_xsp
  go_wp2_with fail
  refine (HS.out a_xsp c_xsp _ hsz_xs (rds_mono rd_xsp (by omega))).mono ?_
  rintro e w2 ⟨vs0, rfl, os0, hb⟩
  have hc := chg_below hb
  clear hb
  clear rd_xsp
  have z2 := hc.size
  replace h_xs := rds_chg h_xs hc (by omega) (by omega)
  replace o_xsp := oi_keep o_xsp hc (by omega) (by omega)
  replace hB0 := below_chg hB0 hc (by omega) (by omega)
  clear hc
  obtain ⟨as0, cs0, rfl, -⟩ := oss_shape os0
  go_wp2_with fail
  clear o_xsp
  refine (toIntS_rd xs a_xs c_xs _ _ h_xs (by omega) hsz_xs).mono ?_
  rintro e w3 ⟨v_xsx, rfl, o_xsx, hb⟩
  have hc := chg_below hb
  clear hb
  have z3 := hc.size
  replace h_xs := rds_chg h_xs hc (by omega) (by omega)
  replace os0 := oss_keep os0 hc (by omega) (by omega)
  replace hB0 := below_chg hB0 hc (by omega) (by omega)
  clear hc
  obtain ⟨a_xsx, c_xsx, _, rfl, -, rd_xsx⟩ := oi_shape o_xsx
  go_wp2_with fail
  refine (HI.out a_xsx c_xsx _ hsz_xs (rds_mono rd_xsx (by omega))).mono ?_
  rintro e w4 ⟨vg0, rfl, og0, hb⟩
  have hc := chg_below hb
  clear hb
  clear rd_xsx
  have z4 := hc.size
  replace h_xs := rds_chg h_xs hc (by omega) (by omega)
  replace os0 := oss_keep os0 hc (by omega) (by omega)
  replace o_xsx := oi_keep o_xsx hc (by omega) (by omega)
  replace hB0 := below_chg hB0 hc (by omega) (by omega)
  clear hc
  obtain ⟨ag0, cg0, rfl, -⟩ := oss_shape og0
  go_wp2_with fail
  refine (eqIntSS_rd r0 ag0 as0 _ _ cg0 cs0 _ (oss_rds og0) (oss_rds os0)).mono ?_
  rintro e w5 ⟨rfl, hs⟩
  have hc := chg_same hs
  clear hs
  have z5 := hc.size
  replace h_xs := rds_chg h_xs hc (by omega) (by omega)
  replace os0 := oss_keep os0 hc (by omega) (by omega)
  replace o_xsx := oi_keep o_xsx hc (by omega) (by omega)
  replace og0 := oss_keep og0 hc (by omega) (by omega)
  replace hB0 := below_chg hB0 hc (by omega) (by omega)
  clear hc
  go_wp2_with fail
  refine (toIntS_rd xs a_xs c_xs _ _ h_xs (by omega) hsz_xs).mono ?_
  rintro e w6 ⟨v_xsy, rfl, o_xsy, hb⟩
  have hc := chg_below hb
  clear hb
  have z6 := hc.size
  replace h_xs := rds_chg h_xs hc (by omega) (by omega)
  replace os0 := oss_keep os0 hc (by omega) (by omega)
  replace o_xsx := oi_keep o_xsx hc (by omega) (by omega)
  replace og0 := oss_keep og0 hc (by omega) (by omega)
  replace hB0 := below_chg hB0 hc (by omega) (by omega)
  clear hc
  obtain ⟨a_xsy, c_xsy, -, rfl, -⟩ := oi_shape o_xsy
  go_wp2_with fail
  refine (eqIntS_rd xs a_xsx a_xsy _ _ c_xsx c_xsy _ (oi_rds o_xsx) (oi_rds o_xsy)).mono ?_
  rintro e w7 ⟨rfl, hs⟩
  have hc := chg_same hs
  clear hs
  have z7 := hc.size
  replace h_xs := rds_chg h_xs hc (by omega) (by omega)
  replace os0 := oss_keep os0 hc (by omega) (by omega)
  replace o_xsx := oi_keep o_xsx hc (by omega) (by omega)
  replace og0 := oss_keep og0 hc (by omega) (by omega)
  replace o_xsy := oi_keep o_xsy hc (by omega) (by omega)
  replace hB0 := below_chg hB0 hc (by omega) (by omega)
  clear hc
  go_wp2_with fail
  clear o_xsy
  refine (markIntS_chg xs a_xsx _ _ c_xsx _ _ o_xsx (by omega) (by omega)).mono ?_
  rintro e w8 ⟨rfl, -, hc⟩
  clear o_xsx
  have z8 := hc.size
  replace h_xs := rds_chg h_xs hc (by omega) (by omega)
  replace os0 := oss_keep os0 hc (by omega) (by omega)
  replace og0 := oss_keep og0 hc (by omega) (by omega)
  replace hB0 := below_chg hB0 hc (by omega) (by omega)
  clear hc
  go_wp2_with fail
  refine (eqIntSS_rd r0 ag0 as0 _ _ cg0 cs0 _ (oss_rds og0) (oss_rds os0)).mono ?_
  rintro e w9 ⟨rfl, hs⟩
  have hc := chg_same hs
  clear hs
  have z9 := hc.size
  replace h_xs := rds_chg h_xs hc (by omega) (by omega)
  replace os0 := oss_keep os0 hc (by omega) (by omega)
  replace og0 := oss_keep og0 hc (by omega) (by omega)
  replace hB0 := below_chg hB0 hc (by omega) (by omega)
  clear hc
  go_wp2_with fail
  refine (markIntSS_chg ls0 r0 HLS0.out HSM0.out (by omega) ag0 _ _ cg0 1 (by omega) (by omega) _ og0).mono ?_
  rintro e w10 ⟨rfl, ⟨cm0, hmk0, om0⟩, hc⟩
  have HMK0 := Lib.hid hmk0
  clear hmk0
  clear og0
  have z10 := hc.size
  replace h_xs := rds_chg h_xs hc (by omega) (by omega)
  replace os0 := oss_keep os0 hc (by omega) (by omega)
  replace hB0 := below_chg hB0 hc (by omega) (by omega)
  clear hc
  generalize hto0' : offs ls0 ls0.length = tot0 at hto0
  go_wp2_with fail
  refine (heldIntSS_rd ls0 cm0 1 (by omega) (by omega) HMK0.out HSM0.out (by omega) ag0 _ _ cg0 (by rw [HMK0.out.1.1, HLS0.out.1]) _ (oss_rds2 om0)).mono ?_
  rintro e w' ⟨rfl, rfl⟩
  rw [hto0']
  go_wp2_with fail
  refine (toIntS_rd xs a_xs c_xs _ _ h_xs (by omega) hsz_xs).mono ?_
  rintro e w11 ⟨v_xsz, rfl, o_xsz, hb⟩
  have hc := chg_below hb
  clear hb
  have z11 := hc.size
  replace h_xs := rds_chg h_xs hc (by omega) (by omega)
  replace os0 := oss_keep os0 hc (by omega) (by omega)
  replace om0 := oss_keep om0 hc (by omega) (by omega)
  replace hB0 := below_chg hB0 hc (by omega) (by omega)
  clear hc
  obtain ⟨a_xsz, c_xsz, _, rfl, -, rd_xsz⟩ := oi_shape o_xsz
  go_wp2_with fail
  refine (HI.out a_xsz c_xsz _ hsz_xs (rds_mono rd_xsz (by omega))).mono ?_
  rintro e w12 ⟨vh0, rfl, oh0, hb⟩
  have hc := chg_below hb
  clear hb
  clear rd_xsz
  have z12 := hc.size
  replace h_xs := rds_chg h_xs hc (by omega) (by omega)
  replace os0 := oss_keep os0 hc (by omega) (by omega)
  replace om0 := oss_keep om0 hc (by omega) (by omega)
  replace o_xsz := oi_keep o_xsz hc (by omega) (by omega)
  replace hB0 := below_chg hB0 hc (by omega) (by omega)
  clear hc
  obtain ⟨ah0, ch0, rfl, -⟩ := oss_shape oh0
  go_wp2_with fail
  clear o_xsz
  refine (eqIntSS_rd r0 ah0 as0 _ _ ch0 cs0 _ (oss_rds oh0) (oss_rds os0)).mono ?_
  rintro e w13 ⟨rfl, hs⟩
  have hc := chg_same hs
  clear hs
  have z13 := hc.size
  replace h_xs := rds_chg h_xs hc (by omega) (by omega)
  replace os0 := oss_keep os0 hc (by omega) (by omega)
  replace om0 := oss_keep om0 hc (by omega) (by omega)
  replace oh0 := oss_keep oh0 hc (by omega) (by omega)
  replace hB0 := below_chg hB0 hc (by omega) (by omega)
  clear hc
  go_wp2_with fail
  refine (heldIntSS_rd ls0 cm0 1 (by omega) (by omega) HMK0.out HSM0.out (by omega) ag0 _ _ cg0 (by rw [HMK0.out.1.1, HLS0.out.1]) _ (oss_rds2 om0)).mono ?_
  rintro e w' ⟨rfl, rfl⟩
  rw [hto0']
  go_wp2_with fail
  go_ret
  exact ⟨rfl, hB0⟩
theorem ossnil (w : World) (lo hi : Nat) : OSS w lo hi (.slice none 0 0) [] := ⟨[], World.ownsRow_nil _ _ _ _, fun k hk => by simp at hk, fun i j _ hj => by simp at hj, fun k hk => by simp [Value.ownBlock] at hk, fun i hi => by simp at hi⟩
theorem osslow {w : World} {lo lo' hi : Nat} {v : Value} {c : List (List Int)} (h : OSS w lo hi v c) (hl : lo' ≤ lo) : OSS w lo' hi v c := by
  obtain ⟨vs, p1, p2, p3, p4, p5⟩ := h
  exact ⟨vs, own_base p1 hl, fun k hk => own_base (p2 k hk) hl, p3, p4, p5⟩
def ciB (n : Int) (xs : List Int) : Bool := decide (1 ≤ n ∧ n ≤ 5) && ptI (3 * n) xs
theorem list3 {xs : List Int} (h : xs.length = 3) : ∃ x y z, xs = [x, y, z] := by
  match xs, h with
  | [x, y, z], _ => exact ⟨x, y, z, rfl⟩
theorem im_rep (m : Nat) (x y z : Int) : imF m (fun _ k => if k = 0 then x else if k = 1 then y else z) = List.replicate m [x, y, z] := by
  induction m with
  | zero => rfl
  | succ m ih => rw [imF_succ, ih, List.replicate_succ']; rfl
set_option maxHeartbeats 400000 in
theorem constC_any (x y z : Int) (gp : Nat) (s : Array Value) (hs : ∃ a b c : Int, s = spA3 a b c) (w : World) (hg : w.heap[gp]? = some (.cells (spA3 x y z) 79 (0, 0))) :
    Calls Try.prog 92 #[.agg s, .pointer (some ⟨gp, 0, none⟩)] w fun e w' => e = .returned (.agg (spA3 x y z)) ∧ Below w.heap.size w w' := by
  obtain ⟨a, b, c, rfl⟩ := hs
  obtain ⟨w1, hw1⟩ : ∃ w1, w1 = (w.alloc (.cells (spA3 a b c) 79)) := ⟨_, rfl⟩
  obtain ⟨w2, hw2⟩ : ∃ w2, w2 = (w1.alloc (.cells zspot 79)) := ⟨_, rfl⟩
  have hb1 : Below w.heap.size w w1 := by rw [hw1]; exact balloc (Below.refl w.heap.size w) _
  have hb2 : Below w1.heap.size w1 w2 := by rw [hw2]; exact balloc (Below.refl w1.heap.size w1) _
  have hz1 : w1.heap.size = w.heap.size + 1 := by rw [hw1]; simp
  have hb := bnext hb1 hb2
  have g0 := hq_later hg hb
  have g2 : w2.heap[w.heap.size + 1]? = some (.cells zspot 79 (0, 0)) := by rw [hw2, ← hz1]; exact heap_alloc_new w1 _
  have HW1 := Lib.hid hw1
  have HW2 := Lib.hid hw2
  clear hw1 hw2 hb1 hb2 hz1 hg
  go_enter Try.func92, Try.ntmps92
  go_wp2_with (first | ((with_reducible refine alloc_blk zspot run_alloc_sp rfl rfl ?_); simp only [World.size_alloc, Act.put, List.setIfInBounds_toArray, List.set_cons_zero, List.set_cons_succ]; rw [← HW1.out, ← HW2.out]) | ((with_reducible refine load_blk blkSp ?_ _ rfl (gp) ?_ (spA3 x y z) g0 (spA3_size _ _ _) ?_); exact rfl; exact rfl; simp only [Act.put, List.setIfInBounds_toArray, List.set_cons_zero, List.set_cons_succ]) | ((with_reducible refine store_blk blkSp rfl _ _ rfl (w.heap.size + 1) (spA3 x y z) (zspot) ?_ ?_ g2 (zspot_size) (spA3_size _ _ _) (spA3_one _ _ _) (w.heap.size) (by omega) ?_); exact rfl; exact rfl; intro w4 hg4 hb4 hk4 hz4))
  exact bodyPost_ret (results_blk1 blkSp rfl _ _ (w.heap.size + 1) _ rfl hg4 rfl) rfl ⟨rfl, hb.trans hb4⟩
set_option maxHeartbeats 1600000 in
theorem implConstantImages (n : Int) (xs : List Int) (a : Option Addr) (cap : Nat) (w : World) (h : RdS w w.heap.size a xs) :
    Calls Try.prog 50 #[.int .i64 n, .slice a xs.length cap] w (OutConstantImages w (if ciB n xs then List.replicate (Pr.cnt n.toNat) xs else []) (ciB n xs)) := by
  by_cases hn : 1 ≤ n ∧ n ≤ 5
  · obtain ⟨n, rfl⟩ := Int.eq_ofNat_of_zero_le (show 0 ≤ n by omega)
    have h1 : 1 ≤ n := by omega
    have h2 : n ≤ 5 := by omega
    have HM := Lib.hid (mappedMeshOf_yes n h1 h2)
    have HI := Lib.hid (fun w' (hb : Below w.heap.size w w') => imageOf_any n (by omega) xs a cap w.heap.size w' (rds_later h hb) hb.size)
    have HC : Hid (ciB n xs = ptI (3 * (n : Int)) xs) := Lib.hid (by simp only [ciB, decide_eq_true hn, Bool.true_and])
    rw [HC.out, Int.toNat_natCast]
    cases hp : ptI (3 * (n : Int)) xs
    · rw [hp] at HI
      clear h hn hp
      go_enter Try.func50, Try.ntmps50
      go_wp2_with fail
      refine (HM.out _).mono ?_
      rintro e w1 ⟨rfl, hb1⟩
      have hB1 := balloc hb1 (.cells #[.int .i64 n] 75)
      go_wp2_with fail
      refine (HI.out _ hB1).mono ?_
      rintro e w2 ⟨x, y, z, rfl, -, hb2⟩
      have hB2 := bnext hB1 hb2
      have hz2 := hB2.size
      go_wp2_with (first | (with_reducible refine alloc_blk zspot run_alloc_sp rfl rfl ?_) | ((with_reducible refine store_blk blkSp rfl _ _ rfl (w2.heap.size) (spA3 x y z) (zspot) ?_ ?_ (heap_alloc_new _ _) (zspot_size) (spA3_size _ _ _) (spA3_one _ _ _) (w2.heap.size) (by omega) ?_); exact rfl; exact rfl; intro w3 hg3 hb3 hk3 hz3; have hb3' : Below w2.heap.size w2 w3 := (balloc (Below.refl w2.heap.size w2) (.cells zspot 79)).trans hb3; have hB3 := hB2.trans (hb3'.mono hz2)))
      go_returns
      exact ⟨_, rfl, ossnil _ _ _, hB3⟩
    · obtain ⟨hl, -, -⟩ := ptI_at hp
      obtain ⟨x, y, z, rfl⟩ := list3 hl
      rw [hp] at HI
      rw [if_pos rfl]
      have HR : Hid (imF (Pr.cnt n) (fun _ k => if k = 0 then x else if k = 1 then y else z) = List.replicate (Pr.cnt n) [x, y, z]) := Lib.hid (im_rep _ _ _ _)
      have HB : Hid (∀ gp w', w'.heap[gp]? = some (.cells (spA3 x y z) 79 (0, 0)) → Calls Try.prog 91 #[.agg #[.int .i64 n], .func (.func 92) #[] #[.pointer (some ⟨gp, 0, none⟩)]] w' fun e w'' => ∃ v, e = .returned v ∧ CellsV w'' w'.heap.size v (List.replicate (Pr.cnt n) [x, y, z]) ∧ Below w'.heap.size w' w'') := Lib.hid (fun gp w' hg => by
        rw [← HR.out]
        exact imagesByC_any n h1 h2 _ gp w' (fun i _ w'' hb => constC_any x y z gp _ ⟨_, _, _, rfl⟩ w'' (hq_later hg hb)))
      have hmf : ∀ (fn : Fn) (first cap : Array Value) (w : World), (Instr.makeFunc fn first cap).run Try.prog w = .ok (.func fn first cap) w := fun _ _ _ _ => rfl
      generalize List.replicate (Pr.cnt n) [x, y, z] = R at *
      clear h hn hp hl HR
      go_enter Try.func50, Try.ntmps50
      go_wp2_with fail
      refine (HM.out _).mono ?_
      rintro e w1 ⟨rfl, hb1⟩
      have hB1 := balloc hb1 (.cells #[.int .i64 n] 75)
      have hg1 := heap_alloc_new w1 (.cells #[.int .i64 n] 75)
      have hz1 : (w1.alloc (.cells #[.int .i64 n] 75)).heap.size = w1.heap.size + 1 := by simp
      go_wp2_with fail
      refine (HI.out _ hB1).mono ?_
      rintro e w2 ⟨x', y', z', rfl, hx, hb2⟩
      obtain ⟨hx1, hx2, hx3⟩ := hx trivial
      have e1 : x = x' := hx1.symm
      have e2 : y = y' := hx2.symm
      have e3 : z = z' := hx3.symm
      clear hx hx1 hx2 hx3
      subst e1
      subst e2
      subst e3
      have hm2 := (hb2.block w1.heap.size (by omega)).trans hg1
      have hB2 := bnext hB1 hb2
      have hz2 := hB2.size
      clear hb1 hb2 hg1 hz1 hB1
      go_wp2_with (first | (with_reducible refine alloc_blk zspot run_alloc_sp rfl rfl ?_) | ((with_reducible refine store_blk blkSp rfl _ _ rfl (w2.heap.size) (spA3 x y z) (zspot) ?_ ?_ (heap_alloc_new _ _) (zspot_size) (spA3_size _ _ _) (spA3_one _ _ _) (w2.heap.size) (by omega) ?_); exact rfl; exact rfl; intro w3 hg3 hb3 hk3 hz3; have hb3' : Below w2.heap.size w2 w3 := (balloc (Below.refl w2.heap.size w2) (.cells zspot 79)).trans hb3; have hB3 := hB2.trans (hb3'.mono hz2); have hm3 := hq_later hm2 hb3'; have mc3 := cell_of_row w3 w1.heap.size 0 _ _ (0, 0) hm3))
      refine (HB.out _ _ hg3).mono ?_
      rintro e w4 ⟨v, rfl, hc, hb4⟩
      obtain ⟨va, vm, vc, rfl⟩ := cells_shape hc
      have hz3 := hB3.size
      go_wp2_with fail
      go_returns
      exact ⟨_, rfl, osslow (oss_new hc) hz3, bnext hB3 hb4⟩
  · have HM := Lib.hid (mappedMeshOf_no n hn)
    have HC : Hid (ciB n xs = false) := Lib.hid (by simp only [ciB, decide_eq_false hn, Bool.false_and])
    rw [HC.out]
    clear h hn
    go_enter Try.func50, Try.ntmps50
    go_wp2_with fail
    refine (HM.out _).mono ?_
    rintro e w1 ⟨rfl, hb1⟩
    have hB1 := balloc hb1 (.cells #[.int .i64 n] 75)
    go_wp2_with fail
    go_returns
    exact ⟨_, rfl, ossnil _ _ _, hB1⟩
set_option maxHeartbeats 1600000 in
theorem specConstantImages (n : Int) (xs : List Int) (a : Option Addr) (cap : Nat) (w : World) (h : RdS w w.heap.size a xs) :
    Calls Try.prog 49 #[.int .i64 n, .slice a xs.length cap] w (OutConstantImages w (if ciB n xs then List.replicate (Pr.cnt n.toNat) xs else []) (ciB n xs)) := by
  by_cases hn : 1 ≤ n ∧ n ≤ 5
  · obtain ⟨n, rfl⟩ := Int.eq_ofNat_of_zero_le (show 0 ≤ n by omega)
    have h1 : 1 ≤ n := by omega
    have h2 : n ≤ 5 := by omega
    have HC : Hid (ciB n xs = ptI (3 * (n : Int)) xs) := Lib.hid (by simp only [ciB, decide_eq_true hn, Bool.true_and])
    rw [HC.out, Int.toNat_natCast]
    cases hp : ptI (3 * (n : Int)) xs
    · have HPT := Lib.hid (fun w' (hs : Same w w') => fxPoint_any n h2 xs a cap _ w' (rds_same h hs))
      rw [hp] at HPT
      clear h hn hp
      go_enter Try.func49, Try.ntmps49
      go_wp2_with fail
      refine (fxSide_yes n ⟨by omega, by omega⟩ _).mono ?_
      rintro e w' ⟨rfl, rfl⟩
      go_wp2_with fail
      refine (HPT.out _ (Same.refl _)).mono ?_
      rintro e w1 ⟨rfl, hs⟩
      go_wp2_with fail
      go_returns
      exact ⟨_, rfl, ossnil _ _ _, hs _⟩
    · obtain ⟨hl, -, -⟩ := ptI_at hp
      obtain ⟨x, y, z, rfl⟩ := list3 hl
      rw [if_pos rfl]
      refine (specCI_yes n h1 h2 x y z hp a cap w h).mono ?_
      rintro e w1 ⟨v, rfl, hc, hb⟩
      exact ⟨_, rfl, oss_new hc, hb⟩
  · have HC : Hid (ciB n xs = false) := Lib.hid (by simp only [ciB, decide_eq_false hn, Bool.false_and])
    rw [HC.out]
    have HN := Lib.hid hn
    clear h hn
    go_enter Try.func49, Try.ntmps49
    go_wp2_with fail
    refine (fxSide_no n HN.out _).mono ?_
    rintro e w' ⟨rfl, rfl⟩
    go_wp2_with fail
    go_returns
    exact ⟨_, rfl, ossnil _ _ _, Below.refl _ _⟩
theorem cim_len (n : Int) (xs : List Int) : (if ciB n xs then List.replicate (Pr.cnt n.toNat) xs else []).length ≤ 100000 := by
  cases h : ciB n xs
  · simp
  · rw [if_pos rfl, List.length_replicate]
    simp only [ciB, Bool.and_eq_true, decide_eq_true_eq] at h
    have := cnt21 n.toNat (by omega)
    omega
theorem cim_row (n : Int) (xs : List Int) (k : Nat) : ((if ciB n xs then List.replicate (Pr.cnt n.toNat) xs else []).getD k []).length ≤ 1000 := by
  cases h : ciB n xs
  · simp
  · rw [if_pos rfl]
    simp only [ciB, Bool.and_eq_true, decide_eq_true_eq] at h
    have hl := (ptI_at h.2).1
    rw [List.getD_eq_getElem?_getD, List.getElem?_replicate]
    split
    · simp; omega
    · simp
theorem law_ConstantImages (w : World) (n : Int) (_ : (Lit.int .i64 n).wf = true) (xs : List Int) (a_xs : Option Addr) (c_xs : Nat) (h_xs : RdS w w.heap.size a_xs xs) :
    Calls Try.prog 13 #[.int .i64 n, .slice a_xs xs.length c_xs] w fun e w' => e = .returned (.bool true) ∧ Below w.heap.size w w' :=
  lawOf_ConstantImages n xs a_xs c_xs w h_xs _ _ (cim_len n xs) (cim_row n xs) (fun a c w _ h => specConstantImages n xs a c w h) (fun a c w _ h => implConstantImages n xs a c w h)
end Go.Proofs.Ytlkgmnmnlfaopaa
