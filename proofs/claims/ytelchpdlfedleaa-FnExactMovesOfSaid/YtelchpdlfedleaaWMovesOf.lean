import Derived.Test.YtelchpdlfedleaaS17
import Derived.Test.YtelchpdlfedleaaS11
namespace Go.Proofs.Ytelchpdlfedleaa
open Go.RowKit
set_option maxRecDepth 4000
def OutMovesOf (w : World) (r0 : List (List Int)) (r1 : Bool) (e : Ending) (w' : World) : Prop := ∃ v0, e = .returned (.tuple #[v0, .bool r1]) ∧ OSS w' w.heap.size w'.heap.size v0 r0 ∧ Below w.heap.size w w'
set_option maxHeartbeats 3200000 in
theorem lawOf_MovesOf (n : Int) (im : List (List Int)) (a_im : Option Addr) (c_im : Nat) (c : Int) (w : World) (h_im : RdSS w w.heap.size a_im im) (r0 : List (List Int)) (r1 : Bool) (hL0 : r0.length ≤ 100000) (hR0 : ∀ k, (r0.getD k []).length ≤ 1000)
    (hs : ∀ (a_im' : Option Addr) (c_im' : Nat) (w' : World), SmallSS im → RdSS w' w'.heap.size a_im' im → Calls Try.prog 28 #[.int .i64 n, .slice a_im' im.length c_im', .int .i64 c] w' (OutMovesOf w' r0 r1))
    (hi : ∀ (a_im' : Option Addr) (c_im' : Nat) (w' : World), SmallSS im → RdSS w' w'.heap.size a_im' im → Calls Try.prog 29 #[.int .i64 n, .slice a_im' im.length c_im', .int .i64 c] w' (OutMovesOf w' r0 r1)) :
    Calls Try.prog 6 #[.int .i64 n, .slice a_im im.length c_im, .int .i64 c] w fun e w' => e = .returned (.bool true) ∧ Below w.heap.size w w' := by
  have HS := Lib.hid hs
  have HI := Lib.hid hi
  clear hs hi
  have hne1 : (r1 != r1) = false := by simp
  obtain ⟨ls0, hls0, hsm0, hln0⟩ : ∃ ls : List Nat, Lens ls r0 ∧ (∀ i, ls.getD i 0 ≤ 1000) ∧ ls.length ≤ 100000 := ⟨r0.map List.length, lens_self r0, fun i => by rw [← (lens_self r0).2 i]; exact hR0 i, by simpa using hL0⟩
  have HLS0 := Lib.hid hls0
  have HSM0 := Lib.hid (show ∀ j, ls0.getD j 0 ≤ 1048576 from fun j => Nat.le_trans (hsm0 j) (by omega))
  have hto0 : offs ls0 ls0.length ≤ 100000000 := Nat.le_trans (offs_le ls0 hsm0 ls0.length) (by omega)
  clear hls0 hsm0 hR0
  have hB0 : Below w.heap.size w w := Below.refl _ _
  go_enter Try.func6, Try.ntmps6
  go_wp2_with fail
  refine (szIntSS_any im a_im c_im _ 1048576 (by omega) (by omega) w h_im).mono ?_
  rintro e w' ⟨l1, rfl, rfl, hl⟩
  rcases hl with hl | ⟨hl0_0, hl1_0, hsz_im⟩
  · go_wp2_with fail
    go_ret
    exact ⟨rfl, Below.refl _ _⟩
  go_wp2_with fail
  refine (toIntSS_any im a_im c_im _ _ h_im (by omega) hsz_im).mono ?_
  rintro e w1 ⟨v_imp, rfl, o_imp, hb⟩
  have hc := chg_below hb
  clear hb
  have z1 := hc.size
  replace h_im := rdss_chg h_im hc (by omega) (by omega)
  replace hB0 := below_chg hB0 hc (by omega) (by omega)
  clear hc
  obtain ⟨a_imp, c_imp, rfl, rd_imp⟩ := oss_shape o_imp
  go_wp2_with fail
  refine (HS.out a_imp c_imp _ hsz_im (rdss_mono rd_imp (by omega))).mono ?_
  rintro e w2 ⟨vs0, rfl, os0, hb⟩
  have hc := chg_below hb
  clear hb
  clear rd_imp
  have z2 := hc.size
  replace h_im := rdss_chg h_im hc (by omega) (by omega)
  replace o_imp := oss_keep o_imp hc (by omega) (by omega)
  replace hB0 := below_chg hB0 hc (by omega) (by omega)
  clear hc
  obtain ⟨as0, cs0, rfl, -⟩ := oss_shape os0
  go_wp2_with fail
  clear o_imp
  refine (toIntSS_any im a_im c_im _ _ h_im (by omega) hsz_im).mono ?_
  rintro e w3 ⟨v_imx, rfl, o_imx, hb⟩
  have hc := chg_below hb
  clear hb
  have z3 := hc.size
  replace h_im := rdss_chg h_im hc (by omega) (by omega)
  replace os0 := oss_keep os0 hc (by omega) (by omega)
  replace hB0 := below_chg hB0 hc (by omega) (by omega)
  clear hc
  obtain ⟨a_imx, c_imx, rfl, rd_imx⟩ := oss_shape o_imx
  go_wp2_with fail
  refine (HI.out a_imx c_imx _ hsz_im (rdss_mono rd_imx (by omega))).mono ?_
  rintro e w4 ⟨vg0, rfl, og0, hb⟩
  have hc := chg_below hb
  clear hb
  clear rd_imx
  have z4 := hc.size
  replace h_im := rdss_chg h_im hc (by omega) (by omega)
  replace os0 := oss_keep os0 hc (by omega) (by omega)
  replace o_imx := oss_keep o_imx hc (by omega) (by omega)
  replace hB0 := below_chg hB0 hc (by omega) (by omega)
  clear hc
  obtain ⟨ag0, cg0, rfl, -⟩ := oss_shape og0
  go_wp2_with fail
  refine (eqIntSS_rd r0 ag0 as0 _ _ cg0 cs0 _ (oss_rds og0) (oss_rds os0)).mono ?_
  rintro e w5 ⟨rfl, hs⟩
  have hc := chg_same hs
  clear hs
  have z5 := hc.size
  replace h_im := rdss_chg h_im hc (by omega) (by omega)
  replace os0 := oss_keep os0 hc (by omega) (by omega)
  replace o_imx := oss_keep o_imx hc (by omega) (by omega)
  replace og0 := oss_keep og0 hc (by omega) (by omega)
  replace hB0 := below_chg hB0 hc (by omega) (by omega)
  clear hc
  go_wp2_with fail
  refine (toIntSS_any im a_im c_im _ _ h_im (by omega) hsz_im).mono ?_
  rintro e w6 ⟨v_imy, rfl, o_imy, hb⟩
  have hc := chg_below hb
  clear hb
  have z6 := hc.size
  replace h_im := rdss_chg h_im hc (by omega) (by omega)
  replace os0 := oss_keep os0 hc (by omega) (by omega)
  replace o_imx := oss_keep o_imx hc (by omega) (by omega)
  replace og0 := oss_keep og0 hc (by omega) (by omega)
  replace hB0 := below_chg hB0 hc (by omega) (by omega)
  clear hc
  obtain ⟨a_imy, c_imy, rfl, -⟩ := oss_shape o_imy
  go_wp2_with fail
  refine (eqIntSS_rd im a_imx a_imy _ _ c_imx c_imy _ (oss_rds o_imx) (oss_rds o_imy)).mono ?_
  rintro e w7 ⟨rfl, hs⟩
  have hc := chg_same hs
  clear hs
  have z7 := hc.size
  replace h_im := rdss_chg h_im hc (by omega) (by omega)
  replace os0 := oss_keep os0 hc (by omega) (by omega)
  replace o_imx := oss_keep o_imx hc (by omega) (by omega)
  replace og0 := oss_keep og0 hc (by omega) (by omega)
  replace o_imy := oss_keep o_imy hc (by omega) (by omega)
  replace hB0 := below_chg hB0 hc (by omega) (by omega)
  clear hc
  go_wp2_with fail
  clear o_imy
  obtain ⟨lx0, hlx0, hsx0, hnx0⟩ := small_lens hsz_im
  refine (markIntSS_chg lx0 im hlx0 hsx0 hnx0 a_imx _ _ c_imx _ (by omega) (by omega) _ o_imx).mono ?_
  rintro e w8 ⟨rfl, -, hc⟩
  have htx0 : offs lx0 lx0.length ≤ 1099511627776 := Nat.le_trans (offs_big lx0 hsx0 lx0.length) (by omega)
  clear hlx0 hsx0
  generalize offs lx0 lx0.length = tx0 at htx0 ⊢
  clear o_imx
  have z8 := hc.size
  replace h_im := rdss_chg h_im hc (by omega) (by omega)
  replace os0 := oss_keep os0 hc (by omega) (by omega)
  replace og0 := oss_keep og0 hc (by omega) (by omega)
  replace hB0 := below_chg hB0 hc (by omega) (by omega)
  clear hc
  go_wp2_with fail
  refine (eqIntSS_rd r0 ag0 as0 _ _ cg0 cs0 _ (oss_rds og0) (oss_rds os0)).mono ?_
  rintro e w9 ⟨rfl, hs⟩
  have hc := chg_same hs
  clear hs
  have z9 := hc.size
  replace h_im := rdss_chg h_im hc (by omega) (by omega)
  replace os0 := oss_keep os0 hc (by omega) (by omega)
  replace og0 := oss_keep og0 hc (by omega) (by omega)
  replace hB0 := below_chg hB0 hc (by omega) (by omega)
  clear hc
  go_wp2_with fail
  refine (markIntSS_chg ls0 r0 HLS0.out HSM0.out (by omega) ag0 _ _ cg0 1 (by omega) (by omega) _ og0).mono ?_
  rintro e w10 ⟨rfl, ⟨cm0, hmk0, om0⟩, hc⟩
  have HMK0 := Lib.hid hmk0
  clear hmk0
  clear og0
  have z10 := hc.size
  replace h_im := rdss_chg h_im hc (by omega) (by omega)
  replace os0 := oss_keep os0 hc (by omega) (by omega)
  replace hB0 := below_chg hB0 hc (by omega) (by omega)
  clear hc
  generalize hto0' : offs ls0 ls0.length = tot0 at hto0
  go_wp2_with fail
  refine (heldIntSS_rd ls0 cm0 1 (by omega) (by omega) HMK0.out HSM0.out (by omega) ag0 _ _ cg0 (by rw [HMK0.out.1.1, HLS0.out.1]) _ (oss_rds2 om0)).mono ?_
  rintro e w' ⟨rfl, rfl⟩
  rw [hto0']
  go_wp2_with fail
  refine (toIntSS_any im a_im c_im _ _ h_im (by omega) hsz_im).mono ?_
  rintro e w11 ⟨v_imz, rfl, o_imz, hb⟩
  have hc := chg_below hb
  clear hb
  have z11 := hc.size
  replace h_im := rdss_chg h_im hc (by omega) (by omega)
  replace os0 := oss_keep os0 hc (by omega) (by omega)
  replace om0 := oss_keep om0 hc (by omega) (by omega)
  replace hB0 := below_chg hB0 hc (by omega) (by omega)
  clear hc
  obtain ⟨a_imz, c_imz, rfl, rd_imz⟩ := oss_shape o_imz
  go_wp2_with fail
  refine (HI.out a_imz c_imz _ hsz_im (rdss_mono rd_imz (by omega))).mono ?_
  rintro e w12 ⟨vh0, rfl, oh0, hb⟩
  have hc := chg_below hb
  clear hb
  clear rd_imz
  have z12 := hc.size
  replace h_im := rdss_chg h_im hc (by omega) (by omega)
  replace os0 := oss_keep os0 hc (by omega) (by omega)
  replace om0 := oss_keep om0 hc (by omega) (by omega)
  replace o_imz := oss_keep o_imz hc (by omega) (by omega)
  replace hB0 := below_chg hB0 hc (by omega) (by omega)
  clear hc
  obtain ⟨ah0, ch0, rfl, -⟩ := oss_shape oh0
  go_wp2_with fail
  clear o_imz
  refine (eqIntSS_rd r0 ah0 as0 _ _ ch0 cs0 _ (oss_rds oh0) (oss_rds os0)).mono ?_
  rintro e w13 ⟨rfl, hs⟩
  have hc := chg_same hs
  clear hs
  have z13 := hc.size
  replace h_im := rdss_chg h_im hc (by omega) (by omega)
  replace os0 := oss_keep os0 hc (by omega) (by omega)
  replace om0 := oss_keep om0 hc (by omega) (by omega)
  replace oh0 := oss_keep oh0 hc (by omega) (by omega)
  replace hB0 := below_chg hB0 hc (by omega) (by omega)
  clear hc
  go_wp2_with fail
  refine (heldIntSS_rd ls0 cm0 1 (by omega) (by omega) HMK0.out HSM0.out (by omega) ag0 _ _ cg0 (by rw [HMK0.out.1.1, HLS0.out.1]) _ (oss_rds2 om0)).mono ?_
  rintro e w' ⟨rfl, rfl⟩
  rw [hto0']
  go_wp2_with fail
  go_ret
  exact ⟨rfl, hB0⟩
theorem mvs_cl (im : List (List Int)) (n k : Nat) : mvs im n (cl n k) = [[mv im n (cq n k 0) 0, mv im n (cq n k 0) 1, mv im n (cq n k 0) 2], [mv im n (cq n k 1) 0, mv im n (cq n k 1) 1, mv im n (cq n k 1) 2], [mv im n (cq n k 2) 0, mv im n (cq n k 2) 1, mv im n (cq n k 2) 2]] := rfl
/-- A cell of the model's list, with the block where its points lie. -/
theorem spec_cell6 {w : World} {base : Nat} {a : Option Addr} {m cap n k : Nat} (h2 : n ≤ 8) (hc : CellsV w base (.slice a m cap) (ci n)) (hk : k < (ci n).length) :
    m = (ci n).length ∧ ∃ g rc rb, a = some ⟨g, 0, none⟩ ∧ g < w.heap.size ∧ w.cell? ⟨g, k, none⟩ = some (.slice (some ⟨rb, 0, none⟩) 3 rc) ∧ Rd w (some ⟨rb, 0, none⟩) rb 0 ((cl n k).map (fun (i : Nat) => (i : Int))) ∧ rb < w.heap.size := by
  obtain ⟨hm, g, ra, rc, rb, ha, hgl, c1, hrd, hx⟩ := spec_cell h2 hc hk
  have e := (hrd.2 0 (by simp [cl])).1
  subst e
  exact ⟨hm, g, rc, rb, ha, hgl, c1, hrd, hx.resolve_left (by simp)⟩
theorem cl_lt (n k : Nat) (h2 : n ≤ 8) (hk : k < (ci n).length) (j : Nat) (hj : j < 3) : (cl n k).getD j 0 < Pr.cnt n := by
  obtain ⟨-, hall⟩ := ci_cq n (by omega)
  obtain ⟨-, -, -, -, hp, hq, hr⟩ := hall k hk
  rcases (by omega : j = 0 ∨ j = 1 ∨ j = 2) with rfl | rfl | rfl
  · exact hp
  · exact hq
  · exact hr
theorem fxAsked_yes (n k : Nat) (h1 : 1 ≤ n) (h2 : n ≤ 5) (im : List (List Int)) (hy : imB n im = true) (hk : k < (ci n).length) (a : Option Addr) (cap B : Nat) (w : World) (h : RdSS w B a im) :
    Calls Try.prog 55 #[.int .i64 n, .slice a im.length cap, .int .i64 k] w fun e w' => e = .returned (.bool true) ∧ Same w w' := by
  have := fxAsked_any n im k a cap B w h
  have e : okM n im k = true := by simp [okM, imgB_nat n h1 h2, hy, hk]
  rwa [e] at this
theorem fxAsked_no (n c : Int) (im : List (List Int)) (hy : okM n im c = false) (a : Option Addr) (cap B : Nat) (w : World) (h : RdSS w B a im) :
    Calls Try.prog 55 #[.int .i64 n, .slice a im.length cap, .int .i64 c] w fun e w' => e = .returned (.bool false) ∧ Same w w' := by
  have := fxAsked_any n im c a cap B w h
  rwa [hy] at this
set_option maxHeartbeats 800000 in
theorem specMovesOf_yes (n k : Nat) (h1 : 1 ≤ n) (h2 : n ≤ 5) (hk : k < (ci n).length) (im : List (List Int)) (hy : imB n im = true) (a : Option Addr) (cap : Nat) (w : World) (h : RdSS w w.heap.size a im) :
    Calls Try.prog 28 #[.int .i64 n, .slice a im.length cap, .int .i64 k] w (OutMovesOf w (mvs im n (cl n k)) true) := by
  have HT := Lib.hid (fxAsked_yes n k h1 h2 im hy hk a cap _ w h)
  have he := Lib.hid (ci_eq n (by omega) h1)
  have HK := Lib.hid (fun w' rc rb (hb : Below w.heap.size w w') hr hl => fxMoves_any n h1 h2 im hy (cl n k) rfl (cl_lt n k (by omega) hk) a (some ⟨rb, 0, none⟩) cap rc rb w' (rdss_mono (rdss_later h hb) hb.size) hr hl)
  have hki : (k : Int) < ((ci n).length : Int) := by omega
  clear h hy
  go_enter Try.func28, Try.ntmps28
  go_wp2_with fail
  refine HT.out.mono ?_
  rintro e w1 ⟨rfl, hs⟩
  go_wp2_with fail
  refine (meCells_any n h1 (by omega) _).mono ?_
  rintro e w2 ⟨v, rfl, hc, hb⟩
  rw [← he.out] at hc
  obtain ⟨sa, m, sc, rfl⟩ := cells_shape hc
  obtain ⟨rfl, g, rc, rb, rfl, hgl, c1, hrd, hrb⟩ := spec_cell6 (by omega) hc hk
  have hB2 := bnext (hs w.heap.size) hb
  clear hc hs hb
  go_wp2_with fail
  refine (HK.out _ rc rb hB2 hrd hrb).mono ?_
  rintro e w3 ⟨v, rfl, hc3, hb3⟩
  obtain ⟨va, vm, vc, rfl⟩ := cells_shape hc3
  have hz := hB2.size
  go_wp2_with fail
  go_returns
  exact ⟨_, rfl, oss_new (cells_base hc3 hz), bnext hB2 hb3⟩
set_option maxHeartbeats 400000 in
theorem specMovesOf_no (n c : Int) (im : List (List Int)) (hy : okM n im c = false) (a : Option Addr) (cap B : Nat) (w : World) (h : RdSS w B a im) :
    Calls Try.prog 28 #[.int .i64 n, .slice a im.length cap, .int .i64 c] w (OutMovesOf w [] false) := by
  have HT := Lib.hid (fxAsked_no n c im hy a cap _ w h)
  clear h hy
  go_enter Try.func28, Try.ntmps28
  go_wp2_with fail
  refine HT.out.mono ?_
  rintro e w1 ⟨rfl, hs⟩
  go_wp2_with fail
  go_returns
  exact ⟨_, rfl, oss_new (cells_nil _ _), hs _⟩
set_option maxHeartbeats 1600000 in
theorem implMovesOf_yes (n k : Nat) (h1 : 1 ≤ n) (h2 : n ≤ 5) (hk : k < (ci n).length) (im : List (List Int)) (hy : imB n im = true) (a : Option Addr) (cap : Nat) (w : World) (h : RdSS w w.heap.size a im) :
    Calls Try.prog 29 #[.int .i64 n, .slice a im.length cap, .int .i64 k] w (OutMovesOf w (mvs im n (cl n k)) true) := by
  have HC := Lib.hid (mappedCellOf_yes n k h1 h2 hk im hy a cap w h)
  have hp := cl_lt n k (by omega) hk 0 (by omega)
  have hq := cl_lt n k (by omega) hk 1 (by omega)
  have hr := cl_lt n k (by omega) hk 2 (by omega)
  have HK := Lib.hid (fun w => corners_move 60 (.agg (mapA n im)) (fun _ _ => rfl) (cq n k 0 : Nat) (cq n k 1 : Nat) (cq n k 2 : Nat) _ _ _ _ _ _ _ _ _ (fun w => moveAt_any n (cq n k 0) h1 h2 hp im hy w) (fun w => moveAt_any n (cq n k 1) h1 h2 hq im hy w) (fun w => moveAt_any n (cq n k 2) h1 h2 hr im hy w) w)
  have HV := Lib.hid (mvs_cl im n k)
  have hmf : ∀ (fn : Fn) (first cap : Array Value) (w : World), (Instr.makeFunc fn first cap).run Try.prog w = .ok (.func fn first cap) w := fun _ _ _ _ => rfl
  clear h hy hp hq hr
  generalize mv im n (cq n k 0) 0 = x0 at *
  generalize mv im n (cq n k 0) 1 = x1 at *
  generalize mv im n (cq n k 0) 2 = x2 at *
  generalize mv im n (cq n k 1) 0 = x3 at *
  generalize mv im n (cq n k 1) 1 = x4 at *
  generalize mv im n (cq n k 1) 2 = x5 at *
  generalize mv im n (cq n k 2) 0 = x6 at *
  generalize mv im n (cq n k 2) 1 = x7 at *
  generalize mv im n (cq n k 2) 2 = x8 at *
  go_enter Try.func29, Try.ntmps29
  go_wp2_with fail
  refine (HC.out).mono ?_
  rintro e w1 ⟨rfl, hb1⟩
  have hz1 := hb1.size
  obtain ⟨gA, gB⟩ := heap2 w1 (.cells zeroM 53) (.cells zspot 61)
  have hAB := balloc (balloc hb1 (.cells zeroM 53)) (.cells zspot 61)
  have hAz : ((w1.alloc (.cells zeroM 53)).alloc (.cells zspot 61)).heap.size = w1.heap.size + 2 := by simp
  go_wp2_with (first | (with_reducible refine alloc_blk zeroM run_alloc_map rfl rfl ?_) | ((with_reducible refine alloc_blk zspot run_alloc_tr rfl rfl ?_); simp only [World.size_alloc, Act.put, List.setIfInBounds_toArray, List.set_cons_zero, List.set_cons_succ]) | ((with_reducible refine store_blk blkM rfl _ _ rfl (w1.heap.size) (mapA n im) (zeroM) ?_ ?_ gA (zeroM_size) (mapA_size _ _) (mapA_one _ _) (w.heap.size) (by omega) ?_); exact rfl; exact rfl; intro w2 hg2 hb2 hk2 hz2; have gB2 := (hk2 (w1.heap.size + 1) (by omega)).trans gB) | ((with_reducible refine store_blk blkTr rfl _ _ rfl (w1.heap.size + 1) (trA n k) (zspot) ?_ ?_ gB2 (zspot_size) (trA_size _ _) (trA_one _ _) (w.heap.size) (by omega) ?_); exact rfl; exact rfl; intro w3 hg3 hb3 hk3 hz3; have gA3 := (hk3 w1.heap.size (by omega)).trans hg2; have hB3 := (hAB.trans hb2).trans hb3) | ((with_reducible refine load_blk blkTr ?_ _ rfl (w1.heap.size + 1) ?_ (trA n k) hg3 (trA_size _ _) ?_); exact rfl; exact rfl; simp only [Act.put, List.setIfInBounds_toArray, List.set_cons_zero, List.set_cons_succ]) | ((with_reducible refine load_blk blkM ?_ _ rfl (w1.heap.size) ?_ (mapA n im) gA3 (mapA_size _ _) ?_); exact rfl; exact rfl; simp only [Act.put, List.setIfInBounds_toArray, List.set_cons_zero, List.set_cons_succ]))
  refine (HK.out _).mono ?_
  rintro e w4 ⟨rfl, hb4⟩
  have hB4 := bnext hB3 hb4
  have hz4 := hB4.size
  go_wp2_with (first | (with_reducible refine alloc_blk z9 run_alloc9_move rfl rfl ?_) | ((with_reducible refine store_blk blk9_move rfl _ _ rfl (w4.heap.size) (n9 x0 x1 x2 x3 x4 x5 x6 x7 x8) (z9) ?_ ?_ (heap_alloc_new _ _) (z9_size) (n9_size _ _ _ _ _ _ _ _ _) (n9_one _ _ _ _ _ _ _ _ _) (w.heap.size) (by omega) ?_); exact rfl; exact rfl; intro w5 hg5 hb5 hk5 hz5; have hB5 := (balloc hB4 (.cells z9 65)).trans hb5))
  refine (lists9_move _ _ _ _ _ _ _ _ _ w4.heap.size 3 w5 hg5).mono ?_
  rintro e w6 ⟨v, rfl, hc6, hb6⟩
  obtain ⟨va, vm, vc, rfl⟩ := cells_shape hc6
  have hz5' := hB5.size
  go_wp2_with fail
  go_returns
  exact ⟨_, rfl, by rw [HV.out]; exact oss_new (cells_base hc6 hz5'), bnext hB5 hb6⟩
theorem okM_no_len (im : List (List Int)) (n k : Nat) : (mvs im n (cl n k)).length ≤ 100000 ∧ ∀ j, ((mvs im n (cl n k)).getD j []).length ≤ 1000 := by
  rw [mvs_cl]
  refine ⟨by simp, fun j => ?_⟩
  match j with
  | 0 => simp
  | 1 => simp
  | 2 => simp
  | j + 3 => simp [List.getD]
set_option maxHeartbeats 400000 in
theorem implMovesOf_no (n c : Int) (im : List (List Int)) (hy : okM n im c = false) (a : Option Addr) (cap : Nat) (w : World) (h : RdSS w w.heap.size a im) :
    Calls Try.prog 29 #[.int .i64 n, .slice a im.length cap, .int .i64 c] w (OutMovesOf w [] false) := by
  have HC := Lib.hid (mappedCellOf_fail n c im hy a cap w h)
  clear h hy
  go_enter Try.func29, Try.ntmps29
  go_wp2_with fail
  refine (HC.out).mono ?_
  rintro e w1 ⟨arr, ha1, ha2, rfl, hb1⟩
  have hz1 := hb1.size
  obtain ⟨gA, gB⟩ := heap2 w1 (.cells zeroM 53) (.cells zspot 61)
  have hAB := balloc (balloc hb1 (.cells zeroM 53)) (.cells zspot 61)
  have hAz : ((w1.alloc (.cells zeroM 53)).alloc (.cells zspot 61)).heap.size = w1.heap.size + 2 := by simp
  go_wp2_with (first | (with_reducible refine alloc_blk zeroM run_alloc_map rfl rfl ?_) | ((with_reducible refine alloc_blk zspot run_alloc_tr rfl rfl ?_); simp only [World.size_alloc, Act.put, List.setIfInBounds_toArray, List.set_cons_zero, List.set_cons_succ]) | ((with_reducible refine store_blk blkM rfl _ _ rfl (w1.heap.size) (arr) (zeroM) ?_ ?_ gA (zeroM_size) (ha1) (ha2) (w.heap.size) (by omega) ?_); exact rfl; exact rfl; intro w2 hg2 hb2 hk2 hz2; have gB2 := (hk2 (w1.heap.size + 1) (by omega)).trans gB) | ((with_reducible refine store_blk blkTr rfl _ _ rfl (w1.heap.size + 1) (zspot) (zspot) ?_ ?_ gB2 (zspot_size) (zspot_size) (zspot_one) (w.heap.size) (by omega) ?_); exact rfl; exact rfl; intro w3 hg3 hb3 hk3 hz3; have hB3 := (hAB.trans hb2).trans hb3))
  go_returns
  exact ⟨_, rfl, oss_new (cells_nil _ _), hB3⟩
theorem law_MovesOf (w : World) (n : Int) (_ : (Lit.int .i64 n).wf = true) (im : List (List Int)) (a_im : Option Addr) (c_im : Nat) (h_im : RdSS w w.heap.size a_im im) (c : Int) (_ : (Lit.int .i64 c).wf = true) :
    Calls Try.prog 6 #[.int .i64 n, .slice a_im im.length c_im, .int .i64 c] w fun e w' => e = .returned (.bool true) ∧ Below w.heap.size w w' := by
  cases h : okM n im c
  · exact lawOf_MovesOf n im a_im c_im c w h_im _ _ (by simp) (by intro k; simp [List.getD]) (fun a c' w' _ h' => specMovesOf_no n c im h a c' _ w' h') (fun a c' w' _ h' => implMovesOf_no n c im h a c' w' h')
  · obtain ⟨n, k, rfl, rfl, h1, h2, hy, hk⟩ := okM_yes h
    exact lawOf_MovesOf n im a_im c_im k w h_im _ _ (okM_no_len im n k).1 (okM_no_len im n k).2 (fun a c w' _ h => specMovesOf_yes n k h1 h2 hk im hy a c w' h) (fun a c w' _ h => implMovesOf_yes n k h1 h2 hk im hy a c w' h)
end Go.Proofs.Ytelchpdlfedleaa
