import Derived.LoopN
import Derived.BigRegion
import Derived.RegionTactic
import Derived.Test.YtlkgmnmnlfaopaaQ5
import Derived.Test.YtlkgmnmnlfaopaaZa
namespace Go.Proofs.Ytlkgmnmnlfaopaa
open Go.RowKit
set_option maxRecDepth 4000
def OutIsGame (w : World) (r0 : Bool) (e : Ending) (w' : World) : Prop := e = .returned (.bool r0) ∧ Below w.heap.size w w'
set_option maxHeartbeats 3200000 in
theorem lawOf_IsGame (gr : List (List Int)) (a_gr : Option Addr) (c_gr : Nat) (gc : List (List Int)) (a_gc : Option Addr) (c_gc : Nat) (w : World) (h_gr : RdSS w w.heap.size a_gr gr) (h_gc : RdSS w w.heap.size a_gc gc) (r0 : Bool)
    (hs : ∀ (a_gr' : Option Addr) (c_gr' : Nat) (a_gc' : Option Addr) (c_gc' : Nat) (w' : World), SmallSS gr → SmallSS gc → RdSS w' w'.heap.size a_gr' gr → RdSS w' w'.heap.size a_gc' gc → Calls Try.prog 16 #[.agg #[.slice a_gr' gr.length c_gr', .slice a_gc' gc.length c_gc']] w' (OutIsGame w' r0))
    (hi : ∀ (a_gr' : Option Addr) (c_gr' : Nat) (a_gc' : Option Addr) (c_gc' : Nat) (w' : World), SmallSS gr → SmallSS gc → RdSS w' w'.heap.size a_gr' gr → RdSS w' w'.heap.size a_gc' gc → Calls Try.prog 18 #[.agg #[.slice a_gr' gr.length c_gr', .slice a_gc' gc.length c_gc']] w' (OutIsGame w' r0)) :
    Calls Try.prog 3 #[.agg #[.slice a_gr gr.length c_gr, .slice a_gc gc.length c_gc]] w fun e w' => e = .returned (.bool true) ∧ Below w.heap.size w w' := by
  have HS := Lib.hid hs
  have HI := Lib.hid hi
  clear hs hi
  have hne0 : (r0 != r0) = false := by simp
  have hB0 : Below w.heap.size w w := Below.refl _ _
  obtain ⟨w1, hww1⟩ : ∃ w1, w1 = (w.alloc (.cells #[.slice a_gr gr.length c_gr, .slice a_gc gc.length c_gc] 24)) := ⟨_, rfl⟩
  have hc : Chg 0 0 w w1 := by rw [hww1]; exact chg_below (balloc (Below.refl w.heap.size w) _)
  have ba : w1.heap[w.heap.size]? = some (.cells #[.slice a_gr gr.length c_gr, .slice a_gc gc.length c_gc] 24 (0, 0)) := by rw [hww1]; exact heap_alloc_new w _
  have hzw : w1.heap.size = w.heap.size + 1 := by rw [hww1]; simp
  have z1 := hc.size
  replace h_gr := rdss_chg h_gr hc (by omega) (by omega)
  replace h_gc := rdss_chg h_gc hc (by omega) (by omega)
  replace hB0 := below_chg hB0 hc (by omega) (by omega)
  clear hc
  have HW1 := Lib.hid hww1
  clear hww1
  go_enter Try.func3, Try.ntmps3
  go_wp2_with fail
  rw [← HW1.out]
  refine (szGame_any gr gc a_gr a_gc c_gr c_gc _ 1048576 (by omega) (by omega) _ h_gr h_gc (by omega)).mono ?_
  rintro e w2 ⟨l1, rfl, hb, hl⟩
  have hc := chg_below hb
  clear hb
  have z2 := hc.size
  replace h_gr := rdss_chg h_gr hc (by omega) (by omega)
  replace h_gc := rdss_chg h_gc hc (by omega) (by omega)
  replace ba := hp_chg ba hc (by omega)
  replace hB0 := below_chg hB0 hc (by omega) (by omega)
  clear hc
  rcases hl with hl | ⟨hl0, hl1, hsz_gr, hsz_gc⟩
  · go_wp2_with fail
    go_ret
    exact ⟨rfl, hB0⟩
  have c0_ba := blk_cell ba 0 _ rfl
  have c1_ba := blk_cell ba 1 _ rfl
  go_wp2_with fail
  clear c0_ba c1_ba
  refine (toGame_any gr gc a_gr a_gc c_gr c_gc _ _ h_gr h_gc (by omega) hsz_gr hsz_gc).mono ?_
  rintro e w3 ⟨v_grp, v_gcp, rfl, o_gp, hb⟩
  have hc := chg_below hb
  clear hb
  have z3 := hc.size
  replace h_gr := rdss_chg h_gr hc (by omega) (by omega)
  replace h_gc := rdss_chg h_gc hc (by omega) (by omega)
  replace ba := hp_chg ba hc (by omega)
  replace hB0 := below_chg hB0 hc (by omega) (by omega)
  clear hc
  obtain ⟨a_grp, c_grp, a_gcp, c_gcp, rfl, rfl, rd_grp, rd_gcp⟩ := og_shape o_gp
  have c0_ba := blk_cell ba 0 _ rfl
  have c1_ba := blk_cell ba 1 _ rfl
  go_wp2_with fail
  clear c0_ba c1_ba
  refine (HS.out a_grp c_grp a_gcp c_gcp _ hsz_gr hsz_gc (rdss_mono rd_grp (by omega)) (rdss_mono rd_gcp (by omega))).mono ?_
  rintro e w4 ⟨rfl, hb⟩
  have hc := chg_below hb
  clear hb
  clear rd_grp
  clear rd_gcp
  have z4 := hc.size
  replace h_gr := rdss_chg h_gr hc (by omega) (by omega)
  replace h_gc := rdss_chg h_gc hc (by omega) (by omega)
  replace ba := hp_chg ba hc (by omega)
  replace o_gp := og_keep o_gp hc (by omega) (by omega)
  replace hB0 := below_chg hB0 hc (by omega) (by omega)
  clear hc
  have c0_ba := blk_cell ba 0 _ rfl
  have c1_ba := blk_cell ba 1 _ rfl
  go_wp2_with fail
  clear c0_ba c1_ba
  clear o_gp
  refine (toGame_any gr gc a_gr a_gc c_gr c_gc _ _ h_gr h_gc (by omega) hsz_gr hsz_gc).mono ?_
  rintro e w5 ⟨v_grx, v_gcx, rfl, o_gx, hb⟩
  have hc := chg_below hb
  clear hb
  have z5 := hc.size
  replace h_gr := rdss_chg h_gr hc (by omega) (by omega)
  replace h_gc := rdss_chg h_gc hc (by omega) (by omega)
  replace ba := hp_chg ba hc (by omega)
  replace hB0 := below_chg hB0 hc (by omega) (by omega)
  clear hc
  obtain ⟨a_grx, c_grx, a_gcx, c_gcx, rfl, rfl, rd_grx, rd_gcx⟩ := og_shape o_gx
  have c0_ba := blk_cell ba 0 _ rfl
  have c1_ba := blk_cell ba 1 _ rfl
  go_wp2_with (first | (with_reducible refine alloc_blk zgame run_alloc_game rfl rfl ?_) | ((with_reducible refine store_blk blkG rfl _ _ rfl (w5.heap.size) (#[.slice a_grx gr.length c_grx, .slice a_gcx gc.length c_gcx]) (zgame) ?_ ?_ (heap_alloc_new _ _) (rfl) (rfl) (by simp [Value.oneCell']) (w5.heap.size) (by omega) ?_); exact rfl; exact rfl; intro w6 hg hb hk hz; have n0_ := blk_cell hg 0 _ rfl; have n1_ := blk_cell hg 1 _ rfl; have hbb_ := (balloc (Below.refl w5.heap.size w5) (.cells zgame 27)).trans hb; have n0_ba := blk_cell (hp_later ba hbb_) 0 _ rfl; have n1_ba := blk_cell (hp_later ba hbb_) 1 _ rfl))
  clear n1_ba n0_ba hbb_ n1_ n0_
  clear c0_ba c1_ba
  have hc := chg_below ((balloc (Below.refl w5.heap.size w5) (.cells zgame 27)).trans hb)
  have hz1_ : (w5.alloc (.cells zgame 27)).heap.size = w5.heap.size + 1 := by simp
  rw [hz1_] at hz
  have bx := hg
  clear hg hb hk hz1_
  have z6 : w6.heap.size = w5.heap.size + 1 := hz
  clear hz
  replace h_gr := rdss_chg h_gr hc (by omega) (by omega)
  replace h_gc := rdss_chg h_gc hc (by omega) (by omega)
  replace ba := hp_chg ba hc (by omega)
  replace o_gx := og_keep o_gx hc (by omega) (by omega)
  replace rd_grx := rdss_chg rd_grx hc (by omega) (by omega)
  replace rd_gcx := rdss_chg rd_gcx hc (by omega) (by omega)
  replace hB0 := below_chg hB0 hc (by omega) (by omega)
  clear hc
  refine (HI.out a_grx c_grx a_gcx c_gcx _ hsz_gr hsz_gc (rdss_mono rd_grx (by omega)) (rdss_mono rd_gcx (by omega))).mono ?_
  rintro e w7 ⟨rfl, hb⟩
  have hc := chg_below hb
  clear hb
  clear rd_grx
  clear rd_gcx
  have z7 := hc.size
  replace h_gr := rdss_chg h_gr hc (by omega) (by omega)
  replace h_gc := rdss_chg h_gc hc (by omega) (by omega)
  replace ba := hp_chg ba hc (by omega)
  replace o_gx := og_keep o_gx hc (by omega) (by omega)
  replace bx := hp_chg bx hc (by omega)
  replace hB0 := below_chg hB0 hc (by omega) (by omega)
  clear hc
  have c0_ba := blk_cell ba 0 _ rfl
  have c1_ba := blk_cell ba 1 _ rfl
  have c0_bx := blk_cell bx 0 _ rfl
  have c1_bx := blk_cell bx 1 _ rfl
  go_wp2_with fail
  clear c0_ba c1_ba c0_bx c1_bx
  have HBX := Lib.hid bx
  have HBA := Lib.hid ba
  have HTG := Lib.hid (fun w' (hb : Below w7.heap.size w7 w') => toGame_any gr gc a_gr a_gc c_gr c_gc w.heap.size w' (rdss_chg h_gr (chg_below hb) (by omega) (.inr rfl)) (rdss_chg h_gc (chg_below hb) (by omega) (.inr rfl)) (by have := hb.size; omega) hsz_gr hsz_gc)
  refine wp_region_mix (fun w' => Below w7.heap.size w7 w') [2, 3] [0, 1, 2, 3, 4] (by kernel_rfl) (by kernel_rfl) (fun _ _ d _ _ h => by cases d <;> exact h) (by kernel_rfl) rfl ((Same.refl w7).drew _) ?_
  refine mix_take 0 _ (.agg #[.slice a_grx gr.length c_grx, .slice a_gcx gc.length c_gcx]) rfl rfl rfl (some 22) rfl (fun w' hw' => exec_row _ _ rfl (w5.heap.size) rfl #[.slice a_grx gr.length c_grx, .slice a_gcx gc.length c_gcx] (blk_load blkG w' _ _ (hp_later HBX.out (hw' : Below w7.heap.size w7 w')) rfl)) ?_
  simp only [Act.put, List.setIfInBounds_toArray, List.set_cons_zero, List.set_cons_succ]
  refine mix_take 1 _ (.agg #[.slice a_gr gr.length c_gr, .slice a_gc gc.length c_gc]) rfl rfl rfl (some 23) rfl (fun w' hw' => exec_row _ _ rfl (w.heap.size) rfl #[.slice a_gr gr.length c_gr, .slice a_gc gc.length c_gc] (blk_load blkGL w' _ _ (hp_later HBA.out (hw' : Below w7.heap.size w7 w')) rfl)) ?_
  simp only [Act.put, List.setIfInBounds_toArray, List.set_cons_zero, List.set_cons_succ]
  refine mix_call 2 _ rfl rfl rfl 17 #[.agg #[.slice a_gr gr.length c_gr, .slice a_gc gc.length c_gc]] (some 24) rfl ?hr2 ?_
  case hr2 => go_simp
  refine (HTG.out _ ((Same.refl w7).drew _)).mono ?_
  rintro e w8 ⟨v_y1, v_y2, rfl, oy, hby⟩
  have hby' : Below w7.heap.size w7 w8 := ((Same.refl w7).drew w7.heap.size).trans hby
  obtain ⟨ay1, cy1, ay2, cy2, rfl, rfl, ry1, ry2⟩ := og_shape oy
  refine ⟨_, rfl, hby', ?_⟩
  simp only [Act.put, List.setIfInBounds_toArray, List.set_cons_zero, List.set_cons_succ]
  have hcy := chg_below hby'
  refine mix_call 3 _ rfl rfl rfl 19 #[.agg #[.slice a_grx gr.length c_grx, .slice a_gcx gc.length c_gcx], .agg #[.slice ay1 gr.length cy1, .slice ay2 gc.length cy2]] (some 25) rfl ?hr3 ?_
  case hr3 => go_simp
  have zy := hcy.size
  have oxy := og_keep o_gx hcy (by omega) (by omega)
  refine (eqGame_rd gr gc a_grx a_gcx ay1 ay2 _ _ _ _ c_grx c_gcx cy1 cy2 _ (og_rds oxy).1 (og_rds oxy).2 ry1 ry2 (by omega) (Nat.le_refl _) (by omega) (Nat.le_refl _)).mono ?_
  rintro e w9 ⟨rfl, hbe⟩
  have hbb : Below w7.heap.size w7 w9 := hby'.trans (hbe.mono (by omega))
  refine ⟨_, rfl, hbb, ?_⟩
  simp only [Act.put, List.setIfInBounds_toArray, List.set_cons_zero, List.set_cons_succ]
  refine mix_take 4 _ ?_ rfl rfl rfl (some 26) rfl (fun w' hw' => ?hv4) ?_
  case hv4 =>
    go_simp
    with_reducible rfl
  simp only [Act.put, List.setIfInBounds_toArray, List.set_cons_zero, List.set_cons_succ]
  refine mix_done ?_
  have hc := chg_below hbb
  clear hbb hbe hby' hby oxy oy ry1 ry2 hcy zy
  have z8 := hc.size
  replace h_gr := rdss_chg h_gr hc (by omega) (by omega)
  replace h_gc := rdss_chg h_gc hc (by omega) (by omega)
  replace ba := hp_chg ba hc (by omega)
  replace o_gx := og_keep o_gx hc (by omega) (by omega)
  replace bx := hp_chg bx hc (by omega)
  replace hB0 := below_chg hB0 hc (by omega) (by omega)
  clear hc
  have c0_ba := blk_cell ba 0 _ rfl
  have c1_ba := blk_cell ba 1 _ rfl
  have c0_bx := blk_cell bx 0 _ rfl
  have c1_bx := blk_cell bx 1 _ rfl
  go_wp2_with fail
  clear c0_ba c1_ba c0_bx c1_bx
  go_ret
  exact ⟨rfl, hB0⟩
end Go.Proofs.Ytlkgmnmnlfaopaa
