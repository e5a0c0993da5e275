import Derived.LoopN
import Derived.BigRegion
import Derived.RegionTactic
import Derived.Test.YtlkgmnmnlfaopaaQ5
import Derived.Test.YtlkgmnmnlfaopaaZa
namespace Go.Proofs.Ytlkgmnmnlfaopaa
open Go.RowKit
set_option maxRecDepth 4000
def OutPayOf (w : World) (r0 : Int) (r1 : Int) (r2 : Int) (r3 : Bool) (e : Ending) (w' : World) : Prop := e = .returned (.tuple #[.int .i64 r0, .int .i64 r1, .int .i64 r2, .bool r3]) ∧ Below w.heap.size w w'
set_option maxHeartbeats 3200000 in
theorem lawOf_PayOf (gr : List (List Int)) (a_gr : Option Addr) (c_gr : Nat) (gc : List (List Int)) (a_gc : Option Addr) (c_gc : Nat) (x : List Int) (a_x : Option Addr) (c_x : Nat) (y : List Int) (a_y : Option Addr) (c_y : Nat) (w : World) (h_gr : RdSS w w.heap.size a_gr gr) (h_gc : RdSS w w.heap.size a_gc gc) (h_x : RdS w w.heap.size a_x x) (h_y : RdS w w.heap.size a_y y) (r0 : Int) (r1 : Int) (r2 : Int) (r3 : Bool)
    (hs : ∀ (a_gr' : Option Addr) (c_gr' : Nat) (a_gc' : Option Addr) (c_gc' : Nat) (a_x' : Option Addr) (c_x' : Nat) (a_y' : Option Addr) (c_y' : Nat) (w' : World), SmallSS gr → SmallSS gc → x.length ≤ 1048576 → y.length ≤ 1048576 → RdSS w' w'.heap.size a_gr' gr → RdSS w' w'.heap.size a_gc' gc → RdS w' w'.heap.size a_x' x → RdS w' w'.heap.size a_y' y → Calls Try.prog 31 #[.agg #[.slice a_gr' gr.length c_gr', .slice a_gc' gc.length c_gc'], .slice a_x' x.length c_x', .slice a_y' y.length c_y'] w' (OutPayOf w' r0 r1 r2 r3))
    (hi : ∀ (a_gr' : Option Addr) (c_gr' : Nat) (a_gc' : Option Addr) (c_gc' : Nat) (a_x' : Option Addr) (c_x' : Nat) (a_y' : Option Addr) (c_y' : Nat) (w' : World), SmallSS gr → SmallSS gc → x.length ≤ 1048576 → y.length ≤ 1048576 → RdSS w' w'.heap.size a_gr' gr → RdSS w' w'.heap.size a_gc' gc → RdS w' w'.heap.size a_x' x → RdS w' w'.heap.size a_y' y → Calls Try.prog 32 #[.agg #[.slice a_gr' gr.length c_gr', .slice a_gc' gc.length c_gc'], .slice a_x' x.length c_x', .slice a_y' y.length c_y'] w' (OutPayOf w' r0 r1 r2 r3)) :
    Calls Try.prog 7 #[.agg #[.slice a_gr gr.length c_gr, .slice a_gc gc.length c_gc], .slice a_x x.length c_x, .slice a_y y.length c_y] w fun e w' => e = .returned (.bool true) ∧ Below w.heap.size w w' := by
  have HS := Lib.hid hs
  have HI := Lib.hid hi
  clear hs hi
  have hne0 : (r0 != r0) = false := by simp
  have hne1 : (r1 != r1) = false := by simp
  have hne2 : (r2 != r2) = false := by simp
  have hne3 : (r3 != r3) = false := by simp
  have hB0 : Below w.heap.size w w := Below.refl _ _
  by_cases hbig_x : (1048576 : Int) < (x.length : Int)
  · go_enter Try.func7, Try.ntmps7
    go_wp2_with fail
    go_ret
    exact ⟨rfl, balloc (Below.refl _ _) _⟩
  have hsz_x : x.length ≤ 1048576 := by omega
  by_cases hbig_y : (1048576 : Int) < (y.length : Int)
  · go_enter Try.func7, Try.ntmps7
    go_wp2_with fail
    go_ret
    exact ⟨rfl, balloc (Below.refl _ _) _⟩
  have hsz_y : y.length ≤ 1048576 := by omega
  obtain ⟨w1, hww1⟩ : ∃ w1, w1 = (w.alloc (.cells #[.slice a_gr gr.length c_gr, .slice a_gc gc.length c_gc] 24)) := ⟨_, rfl⟩
  have hc : Chg 0 0 w w1 := by rw [hww1]; exact chg_below (balloc (Below.refl w.heap.size w) _)
  have ba : w1.heap[w.heap.size]? = some (.cells #[.slice a_gr gr.length c_gr, .slice a_gc gc.length c_gc] 24 (0, 0)) := by rw [hww1]; exact heap_alloc_new w _
  have hzw : w1.heap.size = w.heap.size + 1 := by rw [hww1]; simp
  have z1 := hc.size
  replace h_gr := rdss_chg h_gr hc (by omega) (by omega)
  replace h_gc := rdss_chg h_gc hc (by omega) (by omega)
  replace h_x := rds_chg h_x hc (by omega) (by omega)
  replace h_y := rds_chg h_y hc (by omega) (by omega)
  replace hB0 := below_chg hB0 hc (by omega) (by omega)
  clear hc
  have HW1 := Lib.hid hww1
  clear hww1
  go_enter Try.func7, Try.ntmps7
  go_wp2_with fail
  rw [← HW1.out]
  refine (szGame_any gr gc a_gr a_gc c_gr c_gc _ 1048576 (by omega) (by omega) _ h_gr h_gc (by omega)).mono ?_
  rintro e w2 ⟨l1, rfl, hb, hl⟩
  have hc := chg_below hb
  clear hb
  have z2 := hc.size
  replace h_gr := rdss_chg h_gr hc (by omega) (by omega)
  replace h_gc := rdss_chg h_gc hc (by omega) (by omega)
  replace h_x := rds_chg h_x hc (by omega) (by omega)
  replace h_y := rds_chg h_y hc (by omega) (by omega)
  replace ba := hp_chg ba hc (by omega)
  replace hB0 := below_chg hB0 hc (by omega) (by omega)
  clear hc
  rcases hl with hl | ⟨hl0, hl1, hsz_gr, hsz_gc⟩
  · go_wp2_with fail
    go_ret
    exact ⟨rfl, hB0⟩
  have c0_ba := blk_cell ba 0 _ rfl
  have c1_ba := blk_cell ba 1 _ rfl
  go_wp2_with fail
  clear c0_ba c1_ba
  refine (toGame_any gr gc a_gr a_gc c_gr c_gc _ _ h_gr h_gc (by omega) hsz_gr hsz_gc).mono ?_
  rintro e w3 ⟨v_grp, v_gcp, rfl, o_gp, hb⟩
  have hc := chg_below hb
  clear hb
  have z3 := hc.size
  replace h_gr := rdss_chg h_gr hc (by omega) (by omega)
  replace h_gc := rdss_chg h_gc hc (by omega) (by omega)
  replace h_x := rds_chg h_x hc (by omega) (by omega)
  replace h_y := rds_chg h_y hc (by omega) (by omega)
  replace ba := hp_chg ba hc (by omega)
  replace hB0 := below_chg hB0 hc (by omega) (by omega)
  clear hc
  obtain ⟨a_grp, c_grp, a_gcp, c_gcp, rfl, rfl, rd_grp, rd_gcp⟩ := og_shape o_gp
  have c0_ba := blk_cell ba 0 _ rfl
  have c1_ba := blk_cell ba 1 _ rfl
  go_wp2_with fail
  clear c0_ba c1_ba
  refine (toIntS_rd x a_x c_x _ _ h_x (by omega) hsz_x).mono ?_
  rintro e w4 ⟨v_xp, rfl, o_xp, hb⟩
  have hc := chg_below hb
  clear hb
  have z4 := hc.size
  replace h_gr := rdss_chg h_gr hc (by omega) (by omega)
  replace h_gc := rdss_chg h_gc hc (by omega) (by omega)
  replace h_x := rds_chg h_x hc (by omega) (by omega)
  replace h_y := rds_chg h_y hc (by omega) (by omega)
  replace ba := hp_chg ba hc (by omega)
  replace o_gp := og_keep o_gp hc (by omega) (by omega)
  replace rd_grp := rdss_chg rd_grp hc (by omega) (by omega)
  replace rd_gcp := rdss_chg rd_gcp hc (by omega) (by omega)
  replace hB0 := below_chg hB0 hc (by omega) (by omega)
  clear hc
  obtain ⟨a_xp, c_xp, _, rfl, -, rd_xp⟩ := oi_shape o_xp
  have c0_ba := blk_cell ba 0 _ rfl
  have c1_ba := blk_cell ba 1 _ rfl
  go_wp2_with fail
  clear c0_ba c1_ba
  refine (toIntS_rd y a_y c_y _ _ h_y (by omega) hsz_y).mono ?_
  rintro e w5 ⟨v_yp, rfl, o_yp, hb⟩
  have hc := chg_below hb
  clear hb
  have z5 := hc.size
  replace h_gr := rdss_chg h_gr hc (by omega) (by omega)
  replace h_gc := rdss_chg h_gc hc (by omega) (by omega)
  replace h_x := rds_chg h_x hc (by omega) (by omega)
  replace h_y := rds_chg h_y hc (by omega) (by omega)
  replace ba := hp_chg ba hc (by omega)
  replace o_gp := og_keep o_gp hc (by omega) (by omega)
  replace rd_grp := rdss_chg rd_grp hc (by omega) (by omega)
  replace rd_gcp := rdss_chg rd_gcp hc (by omega) (by omega)
  replace o_xp := oi_keep o_xp hc (by omega) (by omega)
  replace rd_xp := rds_chg rd_xp hc (by omega) (by omega)
  replace hB0 := below_chg hB0 hc (by omega) (by omega)
  clear hc
  obtain ⟨a_yp, c_yp, _, rfl, -, rd_yp⟩ := oi_shape o_yp
  have c0_ba := blk_cell ba 0 _ rfl
  have c1_ba := blk_cell ba 1 _ rfl
  go_wp2_with fail
  clear c0_ba c1_ba
  refine (HS.out a_grp c_grp a_gcp c_gcp a_xp c_xp a_yp c_yp _ hsz_gr hsz_gc hsz_x hsz_y (rdss_mono rd_grp (by omega)) (rdss_mono rd_gcp (by omega)) (rds_mono rd_xp (by omega)) (rds_mono rd_yp (by omega))).mono ?_
  rintro e w6 ⟨rfl, hb⟩
  have hc := chg_below hb
  clear hb
  clear rd_grp
  clear rd_gcp
  clear rd_xp
  clear rd_yp
  have z6 := hc.size
  replace h_gr := rdss_chg h_gr hc (by omega) (by omega)
  replace h_gc := rdss_chg h_gc hc (by omega) (by omega)
  replace h_x := rds_chg h_x hc (by omega) (by omega)
  replace h_y := rds_chg h_y hc (by omega) (by omega)
  replace ba := hp_chg ba hc (by omega)
  replace o_gp := og_keep o_gp hc (by omega) (by omega)
  replace o_xp := oi_keep o_xp hc (by omega) (by omega)
  replace o_yp := oi_keep o_yp hc (by omega) (by omega)
  replace hB0 := below_chg hB0 hc (by omega) (by omega)
  clear hc
  have c0_ba := blk_cell ba 0 _ rfl
  have c1_ba := blk_cell ba 1 _ rfl
  go_wp2_with fail
  clear c0_ba c1_ba
  clear o_gp
  clear o_xp
  clear o_yp
  refine (toGame_any gr gc a_gr a_gc c_gr c_gc _ _ h_gr h_gc (by omega) hsz_gr hsz_gc).mono ?_
  rintro e w7 ⟨v_grx, v_gcx, rfl, o_gx, hb⟩
  have hc := chg_below hb
  clear hb
  have z7 := hc.size
  replace h_gr := rdss_chg h_gr hc (by omega) (by omega)
  replace h_gc := rdss_chg h_gc hc (by omega) (by omega)
  replace h_x := rds_chg h_x hc (by omega) (by omega)
  replace h_y := rds_chg h_y hc (by omega) (by omega)
  replace ba := hp_chg ba hc (by omega)
  replace hB0 := below_chg hB0 hc (by omega) (by omega)
  clear hc
  obtain ⟨a_grx, c_grx, a_gcx, c_gcx, rfl, rfl, rd_grx, rd_gcx⟩ := og_shape o_gx
  have c0_ba := blk_cell ba 0 _ rfl
  have c1_ba := blk_cell ba 1 _ rfl
  go_wp2_with (first | (with_reducible refine alloc_blk zgame run_alloc_game rfl rfl ?_) | ((with_reducible refine store_blk blkG rfl _ _ rfl (w7.heap.size) (#[.slice a_grx gr.length c_grx, .slice a_gcx gc.length c_gcx]) (zgame) ?_ ?_ (heap_alloc_new _ _) (rfl) (rfl) (by simp [Value.oneCell']) (w7.heap.size) (by omega) ?_); exact rfl; exact rfl; intro w8 hg hb hk hz; have n0_ := blk_cell hg 0 _ rfl; have n1_ := blk_cell hg 1 _ rfl; have hbb_ := (balloc (Below.refl w7.heap.size w7) (.cells zgame 27)).trans hb; have n0_ba := blk_cell (hp_later ba hbb_) 0 _ rfl; have n1_ba := blk_cell (hp_later ba hbb_) 1 _ rfl))
  clear n1_ba n0_ba hbb_ n1_ n0_
  clear c0_ba c1_ba
  have hc := chg_below ((balloc (Below.refl w7.heap.size w7) (.cells zgame 27)).trans hb)
  have hz1_ : (w7.alloc (.cells zgame 27)).heap.size = w7.heap.size + 1 := by simp
  rw [hz1_] at hz
  have bx := hg
  clear hg hb hk hz1_
  have z8 : w8.heap.size = w7.heap.size + 1 := hz
  clear hz
  replace h_gr := rdss_chg h_gr hc (by omega) (by omega)
  replace h_gc := rdss_chg h_gc hc (by omega) (by omega)
  replace h_x := rds_chg h_x hc (by omega) (by omega)
  replace h_y := rds_chg h_y hc (by omega) (by omega)
  replace ba := hp_chg ba hc (by omega)
  replace o_gx := og_keep o_gx hc (by omega) (by omega)
  replace rd_grx := rdss_chg rd_grx hc (by omega) (by omega)
  replace rd_gcx := rdss_chg rd_gcx hc (by omega) (by omega)
  replace hB0 := below_chg hB0 hc (by omega) (by omega)
  clear hc
  refine (toIntS_rd x a_x c_x _ _ h_x (by omega) hsz_x).mono ?_
  rintro e w9 ⟨v_xx, rfl, o_xx, hb⟩
  have hc := chg_below hb
  clear hb
  have z9 := hc.size
  replace h_gr := rdss_chg h_gr hc (by omega) (by omega)
  replace h_gc := rdss_chg h_gc hc (by omega) (by omega)
  replace h_x := rds_chg h_x hc (by omega) (by omega)
  replace h_y := rds_chg h_y hc (by omega) (by omega)
  replace ba := hp_chg ba hc (by omega)
  replace o_gx := og_keep o_gx hc (by omega) (by omega)
  replace rd_grx := rdss_chg rd_grx hc (by omega) (by omega)
  replace rd_gcx := rdss_chg rd_gcx hc (by omega) (by omega)
  replace bx := hp_chg bx hc (by omega)
  replace hB0 := below_chg hB0 hc (by omega) (by omega)
  clear hc
  obtain ⟨a_xx, c_xx, _, rfl, -, rd_xx⟩ := oi_shape o_xx
  have c0_ba := blk_cell ba 0 _ rfl
  have c1_ba := blk_cell ba 1 _ rfl
  have c0_bx := blk_cell bx 0 _ rfl
  have c1_bx := blk_cell bx 1 _ rfl
  go_wp2_with fail
  clear c0_ba c1_ba c0_bx c1_bx
  refine (toIntS_rd y a_y c_y _ _ h_y (by omega) hsz_y).mono ?_
  rintro e w10 ⟨v_yx, rfl, o_yx, hb⟩
  have hc := chg_below hb
  clear hb
  have z10 := hc.size
  replace h_gr := rdss_chg h_gr hc (by omega) (by omega)
  replace h_gc := rdss_chg h_gc hc (by omega) (by omega)
  replace h_x := rds_chg h_x hc (by omega) (by omega)
  replace h_y := rds_chg h_y hc (by omega) (by omega)
  replace ba := hp_chg ba hc (by omega)
  replace o_gx := og_keep o_gx hc (by omega) (by omega)
  replace rd_grx := rdss_chg rd_grx hc (by omega) (by omega)
  replace rd_gcx := rdss_chg rd_gcx hc (by omega) (by omega)
  replace bx := hp_chg bx hc (by omega)
  replace o_xx := oi_keep o_xx hc (by omega) (by omega)
  replace rd_xx := rds_chg rd_xx hc (by omega) (by omega)
  replace hB0 := below_chg hB0 hc (by omega) (by omega)
  clear hc
  obtain ⟨a_yx, c_yx, _, rfl, -, rd_yx⟩ := oi_shape o_yx
  have c0_ba := blk_cell ba 0 _ rfl
  have c1_ba := blk_cell ba 1 _ rfl
  have c0_bx := blk_cell bx 0 _ rfl
  have c1_bx := blk_cell bx 1 _ rfl
  go_wp2_with fail
  clear c0_ba c1_ba c0_bx c1_bx
  refine (HI.out a_grx c_grx a_gcx c_gcx a_xx c_xx a_yx c_yx _ hsz_gr hsz_gc hsz_x hsz_y (rdss_mono rd_grx (by omega)) (rdss_mono rd_gcx (by omega)) (rds_mono rd_xx (by omega)) (rds_mono rd_yx (by omega))).mono ?_
  rintro e w11 ⟨rfl, hb⟩
  have hc := chg_below hb
  clear hb
  clear rd_grx
  clear rd_gcx
  clear rd_xx
  clear rd_yx
  have z11 := hc.size
  replace h_gr := rdss_chg h_gr hc (by omega) (by omega)
  replace h_gc := rdss_chg h_gc hc (by omega) (by omega)
  replace h_x := rds_chg h_x hc (by omega) (by omega)
  replace h_y := rds_chg h_y hc (by omega) (by omega)
  replace ba := hp_chg ba hc (by omega)
  replace o_gx := og_keep o_gx hc (by omega) (by omega)
  replace bx := hp_chg bx hc (by omega)
  replace o_xx := oi_keep o_xx hc (by omega) (by omega)
  replace o_yx := oi_keep o_yx hc (by omega) (by omega)
  replace hB0 := below_chg hB0 hc (by omega) (by omega)
  clear hc
  have c0_ba := blk_cell ba 0 _ rfl
  have c1_ba := blk_cell ba 1 _ rfl
  have c0_bx := blk_cell bx 0 _ rfl
  have c1_bx := blk_cell bx 1 _ rfl
  go_wp2_with fail
  clear c0_ba c1_ba c0_bx c1_bx
  have HBX := Lib.hid bx
  have HBA := Lib.hid ba
  have HTG := Lib.hid (fun w' (hb : Below w11.heap.size w11 w') => toGame_any gr gc a_gr a_gc c_gr c_gc w.heap.size w' (rdss_chg h_gr (chg_below hb) (by omega) (.inr rfl)) (rdss_chg h_gc (chg_below hb) (by omega) (.inr rfl)) (by have := hb.size; omega) hsz_gr hsz_gc)
  refine wp_region_mix (fun w' => Below w11.heap.size w11 w') [2, 3] [0, 1, 2, 3, 4] (by kernel_rfl) (by kernel_rfl) (fun _ _ d _ _ h => by cases d <;> exact h) (by kernel_rfl) rfl ((Same.refl w11).drew _) ?_
  refine mix_take 0 _ (.agg #[.slice a_grx gr.length c_grx, .slice a_gcx gc.length c_gcx]) rfl rfl rfl (some 75) rfl (fun w' hw' => exec_row _ _ rfl (w7.heap.size) rfl #[.slice a_grx gr.length c_grx, .slice a_gcx gc.length c_gcx] (blk_load blkG w' _ _ (hp_later HBX.out (hw' : Below w11.heap.size w11 w')) rfl)) ?_
  simp only [Act.put, List.setIfInBounds_toArray, List.set_cons_zero, List.set_cons_succ]
  refine mix_take 1 _ (.agg #[.slice a_gr gr.length c_gr, .slice a_gc gc.length c_gc]) rfl rfl rfl (some 76) rfl (fun w' hw' => exec_row _ _ rfl (w.heap.size) rfl #[.slice a_gr gr.length c_gr, .slice a_gc gc.length c_gc] (blk_load blkGL w' _ _ (hp_later HBA.out (hw' : Below w11.heap.size w11 w')) rfl)) ?_
  simp only [Act.put, List.setIfInBounds_toArray, List.set_cons_zero, List.set_cons_succ]
  refine mix_call 2 _ rfl rfl rfl 17 #[.agg #[.slice a_gr gr.length c_gr, .slice a_gc gc.length c_gc]] (some 77) rfl ?hr2 ?_
  case hr2 => go_simp
  refine (HTG.out _ ((Same.refl w11).drew _)).mono ?_
  rintro e w12 ⟨v_y1, v_y2, rfl, oy, hby⟩
  have hby' : Below w11.heap.size w11 w12 := ((Same.refl w11).drew w11.heap.size).trans hby
  obtain ⟨ay1, cy1, ay2, cy2, rfl, rfl, ry1, ry2⟩ := og_shape oy
  refine ⟨_, rfl, hby', ?_⟩
  simp only [Act.put, List.setIfInBounds_toArray, List.set_cons_zero, List.set_cons_succ]
  have hcy := chg_below hby'
  refine mix_call 3 _ rfl rfl rfl 19 #[.agg #[.slice a_grx gr.length c_grx, .slice a_gcx gc.length c_gcx], .agg #[.slice ay1 gr.length cy1, .slice ay2 gc.length cy2]] (some 78) rfl ?hr3 ?_
  case hr3 => go_simp
  have zy := hcy.size
  have oxy := og_keep o_gx hcy (by omega) (by omega)
  refine (eqGame_rd gr gc a_grx a_gcx ay1 ay2 _ _ _ _ c_grx c_gcx cy1 cy2 _ (og_rds oxy).1 (og_rds oxy).2 ry1 ry2 (by omega) (Nat.le_refl _) (by omega) (Nat.le_refl _)).mono ?_
  rintro e w13 ⟨rfl, hbe⟩
  have hbb : Below w11.heap.size w11 w13 := hby'.trans (hbe.mono (by omega))
  refine ⟨_, rfl, hbb, ?_⟩
  simp only [Act.put, List.setIfInBounds_toArray, List.set_cons_zero, List.set_cons_succ]
  refine mix_take 4 _ ?_ rfl rfl rfl (some 79) rfl (fun w' hw' => ?hv4) ?_
  case hv4 =>
    go_simp
    with_reducible rfl
  simp only [Act.put, List.setIfInBounds_toArray, List.set_cons_zero, List.set_cons_succ]
  refine mix_done ?_
  have hc := chg_below hbb
  clear hbb hbe hby' hby oxy oy ry1 ry2 hcy zy
  have z12 := hc.size
  replace h_gr := rdss_chg h_gr hc (by omega) (by omega)
  replace h_gc := rdss_chg h_gc hc (by omega) (by omega)
  replace h_x := rds_chg h_x hc (by omega) (by omega)
  replace h_y := rds_chg h_y hc (by omega) (by omega)
  replace ba := hp_chg ba hc (by omega)
  replace o_gx := og_keep o_gx hc (by omega) (by omega)
  replace bx := hp_chg bx hc (by omega)
  replace o_xx := oi_keep o_xx hc (by omega) (by omega)
  replace o_yx := oi_keep o_yx hc (by omega) (by omega)
  replace hB0 := below_chg hB0 hc (by omega) (by omega)
  clear hc
  have c0_ba := blk_cell ba 0 _ rfl
  have c1_ba := blk_cell ba 1 _ rfl
  have c0_bx := blk_cell bx 0 _ rfl
  have c1_bx := blk_cell bx 1 _ rfl
  go_wp2_with fail
  clear c0_ba c1_ba c0_bx c1_bx
  refine (toIntS_rd x a_x c_x _ _ h_x (by omega) hsz_x).mono ?_
  rintro e w14 ⟨v_xy, rfl, o_xy, hb⟩
  have hc := chg_below hb
  clear hb
  have z13 := hc.size
  replace h_gr := rdss_chg h_gr hc (by omega) (by omega)
  replace h_gc := rdss_chg h_gc hc (by omega) (by omega)
  replace h_x := rds_chg h_x hc (by omega) (by omega)
  replace h_y := rds_chg h_y hc (by omega) (by omega)
  replace ba := hp_chg ba hc (by omega)
  replace o_gx := og_keep o_gx hc (by omega) (by omega)
  replace bx := hp_chg bx hc (by omega)
  replace o_xx := oi_keep o_xx hc (by omega) (by omega)
  replace o_yx := oi_keep o_yx hc (by omega) (by omega)
  replace hB0 := below_chg hB0 hc (by omega) (by omega)
  clear hc
  obtain ⟨a_xy, c_xy, _, rfl, -, rd_xy⟩ := oi_shape o_xy
  clear rd_xy
  have c0_ba := blk_cell ba 0 _ rfl
  have c1_ba := blk_cell ba 1 _ rfl
  have c0_bx := blk_cell bx 0 _ rfl
  have c1_bx := blk_cell bx 1 _ rfl
  go_wp2_with fail
  clear c0_ba c1_ba c0_bx c1_bx
  refine (eqIntS_rd x a_xx a_xy _ _ c_xx c_xy _ (oi_rds o_xx) (oi_rds o_xy)).mono ?_
  rintro e w15 ⟨rfl, hs⟩
  have hc := chg_same hs
  clear hs
  have z14 := hc.size
  replace h_gr := rdss_chg h_gr hc (by omega) (by omega)
  replace h_gc := rdss_chg h_gc hc (by omega) (by omega)
  replace h_x := rds_chg h_x hc (by omega) (by omega)
  replace h_y := rds_chg h_y hc (by omega) (by omega)
  replace ba := hp_chg ba hc (by omega)
  replace o_gx := og_keep o_gx hc (by omega) (by omega)
  replace bx := hp_chg bx hc (by omega)
  replace o_xx := oi_keep o_xx hc (by omega) (by omega)
  replace o_yx := oi_keep o_yx hc (by omega) (by omega)
  replace o_xy := oi_keep o_xy hc (by omega) (by omega)
  replace hB0 := below_chg hB0 hc (by omega) (by omega)
  clear hc
  have c0_ba := blk_cell ba 0 _ rfl
  have c1_ba := blk_cell ba 1 _ rfl
  have c0_bx := blk_cell bx 0 _ rfl
  have c1_bx := blk_cell bx 1 _ rfl
  go_wp2_with fail
  clear c0_ba c1_ba c0_bx c1_bx
  clear o_xy
  refine (toIntS_rd y a_y c_y _ _ h_y (by omega) hsz_y).mono ?_
  rintro e w16 ⟨v_yy, rfl, o_yy, hb⟩
  have hc := chg_below hb
  clear hb
  have z15 := hc.size
  replace h_gr := rdss_chg h_gr hc (by omega) (by omega)
  replace h_gc := rdss_chg h_gc hc (by omega) (by omega)
  replace h_x := rds_chg h_x hc (by omega) (by omega)
  replace h_y := rds_chg h_y hc (by omega) (by omega)
  replace ba := hp_chg ba hc (by omega)
  replace o_gx := og_keep o_gx hc (by omega) (by omega)
  replace bx := hp_chg bx hc (by omega)
  replace o_xx := oi_keep o_xx hc (by omega) (by omega)
  replace o_yx := oi_keep o_yx hc (by omega) (by omega)
  replace hB0 := below_chg hB0 hc (by omega) (by omega)
  clear hc
  obtain ⟨a_yy, c_yy, _, rfl, -, rd_yy⟩ := oi_shape o_yy
  clear rd_yy
  have c0_ba := blk_cell ba 0 _ rfl
  have c1_ba := blk_cell ba 1 _ rfl
  have c0_bx := blk_cell bx 0 _ rfl
  have c1_bx := blk_cell bx 1 _ rfl
  go_wp2_with fail
  clear c0_ba c1_ba c0_bx c1_bx
  refine (eqIntS_rd y a_yx a_yy _ _ c_yx c_yy _ (oi_rds o_yx) (oi_rds o_yy)).mono ?_
  rintro e w17 ⟨rfl, hs⟩
  have hc := chg_same hs
  clear hs
  have z16 := hc.size
  replace h_gr := rdss_chg h_gr hc (by omega) (by omega)
  replace h_gc := rdss_chg h_gc hc (by omega) (by omega)
  replace h_x := rds_chg h_x hc (by omega) (by omega)
  replace h_y := rds_chg h_y hc (by omega) (by omega)
  replace ba := hp_chg ba hc (by omega)
  replace o_gx := og_keep o_gx hc (by omega) (by omega)
  replace bx := hp_chg bx hc (by omega)
  replace o_xx := oi_keep o_xx hc (by omega) (by omega)
  replace o_yx := oi_keep o_yx hc (by omega) (by omega)
  replace o_yy := oi_keep o_yy hc (by omega) (by omega)
  replace hB0 := below_chg hB0 hc (by omega) (by omega)
  clear hc
  have c0_ba := blk_cell ba 0 _ rfl
  have c1_ba := blk_cell ba 1 _ rfl
  have c0_bx := blk_cell bx 0 _ rfl
  have c1_bx := blk_cell bx 1 _ rfl
  go_wp2_with fail
  clear c0_ba c1_ba c0_bx c1_bx
  clear o_yy
  go_ret
  exact ⟨rfl, hB0⟩
end Go.Proofs.Ytlkgmnmnlfaopaa
