import Derived.LoopN
import Derived.BigRegion
import Derived.RegionTactic
import Derived.Test.YtlkgmnmnlfaopaaQ5
import Derived.Test.YtlkgmnmnlfaopaaZa
namespace Go.Proofs.Ytlkgmnmnlfaopaa
open Go.RowKit
set_option maxRecDepth 4000
def OutAddToColumn (w : World) (r0a : List (List Int)) (r0b : List (List Int)) (r1 : Bool) (e : Ending) (w' : World) : Prop := ∃ v0a v0b, e = .returned (.tuple #[.agg #[v0a, v0b], .bool r1]) ∧ OG w' w.heap.size w'.heap.size v0a v0b r0a r0b ∧ Below w.heap.size w w'
set_option maxHeartbeats 3200000 in
theorem lawOf_AddToColumn (gr : List (List Int)) (a_gr : Option Addr) (c_gr : Nat) (gc : List (List Int)) (a_gc : Option Addr) (c_gc : Nat) (j : Int) (k : Int) (w : World) (h_gr : RdSS w w.heap.size a_gr gr) (h_gc : RdSS w w.heap.size a_gc gc) (r0a : List (List Int)) (hLr0a : r0a.length ≤ 100000) (hRr0a : ∀ k, (r0a.getD k []).length ≤ 1000) (r0b : List (List Int)) (hLr0b : r0b.length ≤ 100000) (hRr0b : ∀ k, (r0b.getD k []).length ≤ 1000) (r1 : Bool)
    (hs : ∀ (a_gr' : Option Addr) (c_gr' : Nat) (a_gc' : Option Addr) (c_gc' : Nat) (w' : World), SmallSS gr → SmallSS gc → RdSS w' w'.heap.size a_gr' gr → RdSS w' w'.heap.size a_gc' gc → Calls Try.prog 43 #[.agg #[.slice a_gr' gr.length c_gr', .slice a_gc' gc.length c_gc'], .int .i64 j, .int .i64 k] w' (OutAddToColumn w' r0a r0b r1))
    (hi : ∀ (a_gr' : Option Addr) (c_gr' : Nat) (a_gc' : Option Addr) (c_gc' : Nat) (w' : World), SmallSS gr → SmallSS gc → RdSS w' w'.heap.size a_gr' gr → RdSS w' w'.heap.size a_gc' gc → Calls Try.prog 44 #[.agg #[.slice a_gr' gr.length c_gr', .slice a_gc' gc.length c_gc'], .int .i64 j, .int .i64 k] w' (OutAddToColumn w' r0a r0b r1)) :
    Calls Try.prog 11 #[.agg #[.slice a_gr gr.length c_gr, .slice a_gc gc.length c_gc], .int .i64 j, .int .i64 k] w fun e w' => e = .returned (.bool true) ∧ Below w.heap.size w w' := by
  have HS := Lib.hid hs
  have HI := Lib.hid hi
  clear hs hi
  have hne1 : (r1 != r1) = false := by simp
  obtain ⟨lsr0a, hlsr0a, hsmr0a, hlnr0a⟩ : ∃ ls : List Nat, Lens ls r0a ∧ (∀ i, ls.getD i 0 ≤ 1000) ∧ ls.length ≤ 100000 := ⟨r0a.map List.length, lens_self r0a, fun i => by rw [← (lens_self r0a).2 i]; exact hRr0a i, by simpa using hLr0a⟩
  have HLSr0a := Lib.hid hlsr0a
  have HSMr0a := Lib.hid (show ∀ j, lsr0a.getD j 0 ≤ 1048576 from fun j => Nat.le_trans (hsmr0a j) (by omega))
  have htor0a : offs lsr0a lsr0a.length ≤ 100000000 := Nat.le_trans (offs_le lsr0a hsmr0a lsr0a.length) (by omega)
  clear hlsr0a hsmr0a hRr0a
  obtain ⟨lsr0b, hlsr0b, hsmr0b, hlnr0b⟩ : ∃ ls : List Nat, Lens ls r0b ∧ (∀ i, ls.getD i 0 ≤ 1000) ∧ ls.length ≤ 100000 := ⟨r0b.map List.length, lens_self r0b, fun i => by rw [← (lens_self r0b).2 i]; exact hRr0b i, by simpa using hLr0b⟩
  have HLSr0b := Lib.hid hlsr0b
  have HSMr0b := Lib.hid (show ∀ j, lsr0b.getD j 0 ≤ 1048576 from fun j => Nat.le_trans (hsmr0b j) (by omega))
  have htor0b : offs lsr0b lsr0b.length ≤ 100000000 := Nat.le_trans (offs_le lsr0b hsmr0b lsr0b.length) (by omega)
  clear hlsr0b hsmr0b hRr0b
  have hB0 : Below w.heap.size w w := Below.refl _ _
  obtain ⟨w1, hww1⟩ : ∃ w1, w1 = (w.alloc (.cells #[.slice a_gr gr.length c_gr, .slice a_gc gc.length c_gc] 24)) := ⟨_, rfl⟩
  have hc : Chg 0 0 w w1 := by rw [hww1]; exact chg_below (balloc (Below.refl w.heap.size w) _)
  have ba : w1.heap[w.heap.size]? = some (.cells #[.slice a_gr gr.length c_gr, .slice a_gc gc.length c_gc] 24 (0, 0)) := by rw [hww1]; exact heap_alloc_new w _
  have hzw : w1.heap.size = w.heap.size + 1 := by rw [hww1]; simp
  have z1 := hc.size
  replace h_gr := rdss_chg h_gr hc (by omega) (by omega)
  replace h_gc := rdss_chg h_gc hc (by omega) (by omega)
  replace hB0 := below_chg hB0 hc (by omega) (by omega)
  clear hc
  have HW1 := Lib.hid hww1
  clear hww1
  go_enter Try.func11, Try.ntmps11
  go_wp2_with fail
  rw [← HW1.out]
  refine (szGame_any gr gc a_gr a_gc c_gr c_gc _ 1048576 (by omega) (by omega) _ h_gr h_gc (by omega)).mono ?_
  rintro e w2 ⟨l1, rfl, hb, hl⟩
  have hc := chg_below hb
  clear hb
  have z2 := hc.size
  replace h_gr := rdss_chg h_gr hc (by omega) (by omega)
  replace h_gc := rdss_chg h_gc hc (by omega) (by omega)
  replace ba := hp_chg ba hc (by omega)
  replace hB0 := below_chg hB0 hc (by omega) (by omega)
  clear hc
  rcases hl with hl | ⟨hl0, hl1, hsz_gr, hsz_gc⟩
  · go_wp2_with fail
    go_ret
    exact ⟨rfl, hB0⟩
  have c0_ba := blk_cell ba 0 _ rfl
  have c1_ba := blk_cell ba 1 _ rfl
  go_wp2_with fail
  clear c0_ba c1_ba
  refine (toGame_any gr gc a_gr a_gc c_gr c_gc _ _ h_gr h_gc (by omega) hsz_gr hsz_gc).mono ?_
  rintro e w3 ⟨v_grp, v_gcp, rfl, o_gp, hb⟩
  have hc := chg_below hb
  clear hb
  have z3 := hc.size
  replace h_gr := rdss_chg h_gr hc (by omega) (by omega)
  replace h_gc := rdss_chg h_gc hc (by omega) (by omega)
  replace ba := hp_chg ba hc (by omega)
  replace hB0 := below_chg hB0 hc (by omega) (by omega)
  clear hc
  obtain ⟨a_grp, c_grp, a_gcp, c_gcp, rfl, rfl, rd_grp, rd_gcp⟩ := og_shape o_gp
  have c0_ba := blk_cell ba 0 _ rfl
  have c1_ba := blk_cell ba 1 _ rfl
  go_wp2_with fail
  clear c0_ba c1_ba
  refine (HS.out a_grp c_grp a_gcp c_gcp _ hsz_gr hsz_gc (rdss_mono rd_grp (by omega)) (rdss_mono rd_gcp (by omega))).mono ?_
  rintro e w4 ⟨vs0a, vs0b, rfl, os0, hb⟩
  have hc := chg_below hb
  clear hb
  clear rd_grp
  clear rd_gcp
  have z4 := hc.size
  replace h_gr := rdss_chg h_gr hc (by omega) (by omega)
  replace h_gc := rdss_chg h_gc hc (by omega) (by omega)
  replace ba := hp_chg ba hc (by omega)
  replace o_gp := og_keep o_gp hc (by omega) (by omega)
  replace hB0 := below_chg hB0 hc (by omega) (by omega)
  clear hc
  obtain ⟨as0a, cs0a, as0b, cs0b, rfl, rfl, -, -⟩ := og_shape os0
  have c0_ba := blk_cell ba 0 _ rfl
  have c1_ba := blk_cell ba 1 _ rfl
  go_wp2_with (first | (with_reducible refine alloc_blk zgame run_alloc_game rfl rfl ?_) | ((with_reducible refine store_blk blkG rfl _ _ rfl (w4.heap.size) (#[.slice as0a r0a.length cs0a, .slice as0b r0b.length cs0b]) (zgame) ?_ ?_ (heap_alloc_new _ _) (rfl) (rfl) (by simp [Value.oneCell']) (w4.heap.size) (by omega) ?_); exact rfl; exact rfl; intro w5 hg hb hk hz; have n0_ := blk_cell hg 0 _ rfl; have n1_ := blk_cell hg 1 _ rfl; have hbb_ := (balloc (Below.refl w4.heap.size w4) (.cells zgame 27)).trans hb; have n0_ba := blk_cell (hp_later ba hbb_) 0 _ rfl; have n1_ba := blk_cell (hp_later ba hbb_) 1 _ rfl))
  clear n1_ba n0_ba hbb_ n1_ n0_
  clear c0_ba c1_ba
  have hc := chg_below ((balloc (Below.refl w4.heap.size w4) (.cells zgame 27)).trans hb)
  have hz1_ : (w4.alloc (.cells zgame 27)).heap.size = w4.heap.size + 1 := by simp
  rw [hz1_] at hz
  have bs := hg
  clear hg hb hk hz1_
  have z5 : w5.heap.size = w4.heap.size + 1 := hz
  clear hz
  replace h_gr := rdss_chg h_gr hc (by omega) (by omega)
  replace h_gc := rdss_chg h_gc hc (by omega) (by omega)
  replace ba := hp_chg ba hc (by omega)
  replace o_gp := og_keep o_gp hc (by omega) (by omega)
  replace os0 := og_keep os0 hc (by omega) (by omega)
  replace hB0 := below_chg hB0 hc (by omega) (by omega)
  clear hc
  clear o_gp
  refine (toGame_any gr gc a_gr a_gc c_gr c_gc _ _ h_gr h_gc (by omega) hsz_gr hsz_gc).mono ?_
  rintro e w6 ⟨v_grx, v_gcx, rfl, o_gx, hb⟩
  have hc := chg_below hb
  clear hb
  have z6 := hc.size
  replace h_gr := rdss_chg h_gr hc (by omega) (by omega)
  replace h_gc := rdss_chg h_gc hc (by omega) (by omega)
  replace ba := hp_chg ba hc (by omega)
  replace os0 := og_keep os0 hc (by omega) (by omega)
  replace bs := hp_chg bs hc (by omega)
  replace hB0 := below_chg hB0 hc (by omega) (by omega)
  clear hc
  obtain ⟨a_grx, c_grx, a_gcx, c_gcx, rfl, rfl, rd_grx, rd_gcx⟩ := og_shape o_gx
  have c0_ba := blk_cell ba 0 _ rfl
  have c1_ba := blk_cell ba 1 _ rfl
  have c0_bs := blk_cell bs 0 _ rfl
  have c1_bs := blk_cell bs 1 _ rfl
  go_wp2_with (first | (with_reducible refine alloc_blk zgame run_alloc_game rfl rfl ?_) | ((with_reducible refine store_blk blkG rfl _ _ rfl (w6.heap.size) (#[.slice a_grx gr.length c_grx, .slice a_gcx gc.length c_gcx]) (zgame) ?_ ?_ (heap_alloc_new _ _) (rfl) (rfl) (by simp [Value.oneCell']) (w6.heap.size) (by omega) ?_); exact rfl; exact rfl; intro w7 hg hb hk hz; have n0_ := blk_cell hg 0 _ rfl; have n1_ := blk_cell hg 1 _ rfl; have hbb_ := (balloc (Below.refl w6.heap.size w6) (.cells zgame 27)).trans hb; have n0_ba := blk_cell (hp_later ba hbb_) 0 _ rfl; have n1_ba := blk_cell (hp_later ba hbb_) 1 _ rfl; have n0_bs := blk_cell (hp_later bs hbb_) 0 _ rfl; have n1_bs := blk_cell (hp_later bs hbb_) 1 _ rfl))
  clear n1_bs n0_bs n1_ba n0_ba hbb_ n1_ n0_
  clear c0_ba c1_ba c0_bs c1_bs
  have hc := chg_below ((balloc (Below.refl w6.heap.size w6) (.cells zgame 27)).trans hb)
  have hz1_ : (w6.alloc (.cells zgame 27)).heap.size = w6.heap.size + 1 := by simp
  rw [hz1_] at hz
  have bx := hg
  clear hg hb hk hz1_
  have z7 : w7.heap.size = w6.heap.size + 1 := hz
  clear hz
  replace h_gr := rdss_chg h_gr hc (by omega) (by omega)
  replace h_gc := rdss_chg h_gc hc (by omega) (by omega)
  replace ba := hp_chg ba hc (by omega)
  replace os0 := og_keep os0 hc (by omega) (by omega)
  replace bs := hp_chg bs hc (by omega)
  replace o_gx := og_keep o_gx hc (by omega) (by omega)
  replace rd_grx := rdss_chg rd_grx hc (by omega) (by omega)
  replace rd_gcx := rdss_chg rd_gcx hc (by omega) (by omega)
  replace hB0 := below_chg hB0 hc (by omega) (by omega)
  clear hc
  refine (HI.out a_grx c_grx a_gcx c_gcx _ hsz_gr hsz_gc (rdss_mono rd_grx (by omega)) (rdss_mono rd_gcx (by omega))).mono ?_
  rintro e w8 ⟨vg0a, vg0b, rfl, og0, hb⟩
  have hc := chg_below hb
  clear hb
  clear rd_grx
  clear rd_gcx
  have z8 := hc.size
  replace h_gr := rdss_chg h_gr hc (by omega) (by omega)
  replace h_gc := rdss_chg h_gc hc (by omega) (by omega)
  replace ba := hp_chg ba hc (by omega)
  replace os0 := og_keep os0 hc (by omega) (by omega)
  replace bs := hp_chg bs hc (by omega)
  replace o_gx := og_keep o_gx hc (by omega) (by omega)
  replace bx := hp_chg bx hc (by omega)
  replace hB0 := below_chg hB0 hc (by omega) (by omega)
  clear hc
  obtain ⟨ag0a, cg0a, ag0b, cg0b, rfl, rfl, -, -⟩ := og_shape og0
  have c0_ba := blk_cell ba 0 _ rfl
  have c1_ba := blk_cell ba 1 _ rfl
  have c0_bs := blk_cell bs 0 _ rfl
  have c1_bs := blk_cell bs 1 _ rfl
  have c0_bx := blk_cell bx 0 _ rfl
  have c1_bx := blk_cell bx 1 _ rfl
  go_wp2_with (first | (with_reducible refine alloc_blk zgame run_alloc_game rfl rfl ?_) | ((with_reducible refine store_blk blkG rfl _ _ rfl (w8.heap.size) (#[.slice ag0a r0a.length cg0a, .slice ag0b r0b.length cg0b]) (zgame) ?_ ?_ (heap_alloc_new _ _) (rfl) (rfl) (by simp [Value.oneCell']) (w8.heap.size) (by omega) ?_); exact rfl; exact rfl; intro w9 hg hb hk hz; have n0_ := blk_cell hg 0 _ rfl; have n1_ := blk_cell hg 1 _ rfl; have hbb_ := (balloc (Below.refl w8.heap.size w8) (.cells zgame 27)).trans hb; have n0_ba := blk_cell (hp_later ba hbb_) 0 _ rfl; have n1_ba := blk_cell (hp_later ba hbb_) 1 _ rfl; have n0_bs := blk_cell (hp_later bs hbb_) 0 _ rfl; have n1_bs := blk_cell (hp_later bs hbb_) 1 _ rfl; have n0_bx := blk_cell (hp_later bx hbb_) 0 _ rfl; have n1_bx := blk_cell (hp_later bx hbb_) 1 _ rfl))
  clear n1_bx n0_bx n1_bs n0_bs n1_ba n0_ba hbb_ n1_ n0_
  clear c0_ba c1_ba c0_bs c1_bs c0_bx c1_bx
  have hc := chg_below ((balloc (Below.refl w8.heap.size w8) (.cells zgame 27)).trans hb)
  have hz1_ : (w8.alloc (.cells zgame 27)).heap.size = w8.heap.size + 1 := by simp
  rw [hz1_] at hz
  have bg := hg
  clear hg hb hk hz1_
  have z9 : w9.heap.size = w8.heap.size + 1 := hz
  clear hz
  replace h_gr := rdss_chg h_gr hc (by omega) (by omega)
  replace h_gc := rdss_chg h_gc hc (by omega) (by omega)
  replace ba := hp_chg ba hc (by omega)
  replace os0 := og_keep os0 hc (by omega) (by omega)
  replace bs := hp_chg bs hc (by omega)
  replace o_gx := og_keep o_gx hc (by omega) (by omega)
  replace bx := hp_chg bx hc (by omega)
  replace og0 := og_keep og0 hc (by omega) (by omega)
  replace hB0 := below_chg hB0 hc (by omega) (by omega)
  clear hc
  refine (eqGame_rd r0a r0b ag0a ag0b as0a as0b _ _ _ _ cg0a cg0b cs0a cs0b _ (og_rds og0).1 (og_rds og0).2 (og_rds os0).1 (og_rds os0).2 (by omega) (by omega) (by omega) (by omega)).mono ?_
  rintro e w10 ⟨rfl, hb⟩
  have hc := chg_below hb
  clear hb
  have z10 := hc.size
  replace h_gr := rdss_chg h_gr hc (by omega) (by omega)
  replace h_gc := rdss_chg h_gc hc (by omega) (by omega)
  replace ba := hp_chg ba hc (by omega)
  replace os0 := og_keep os0 hc (by omega) (by omega)
  replace bs := hp_chg bs hc (by omega)
  replace o_gx := og_keep o_gx hc (by omega) (by omega)
  replace bx := hp_chg bx hc (by omega)
  replace og0 := og_keep og0 hc (by omega) (by omega)
  replace bg := hp_chg bg hc (by omega)
  replace hB0 := below_chg hB0 hc (by omega) (by omega)
  clear hc
  have c0_ba := blk_cell ba 0 _ rfl
  have c1_ba := blk_cell ba 1 _ rfl
  have c0_bs := blk_cell bs 0 _ rfl
  have c1_bs := blk_cell bs 1 _ rfl
  have c0_bx := blk_cell bx 0 _ rfl
  have c1_bx := blk_cell bx 1 _ rfl
  have c0_bg := blk_cell bg 0 _ rfl
  have c1_bg := blk_cell bg 1 _ rfl
  go_wp2_with fail
  clear c0_ba c1_ba c0_bs c1_bs c0_bx c1_bx c0_bg c1_bg
  have HBX := Lib.hid bx
  have HBA := Lib.hid ba
  have HTG := Lib.hid (fun w' (hb : Below w10.heap.size w10 w') => toGame_any gr gc a_gr a_gc c_gr c_gc w.heap.size w' (rdss_chg h_gr (chg_below hb) (by omega) (.inr rfl)) (rdss_chg h_gc (chg_below hb) (by omega) (.inr rfl)) (by have := hb.size; omega) hsz_gr hsz_gc)
  refine wp_region_mix (fun w' => Below w10.heap.size w10 w') [2, 3] [0, 1, 2, 3, 4] (by kernel_rfl) (by kernel_rfl) (fun _ _ d _ _ h => by cases d <;> exact h) (by kernel_rfl) rfl ((Same.refl w10).drew _) ?_
  refine mix_take 0 _ (.agg #[.slice a_grx gr.length c_grx, .slice a_gcx gc.length c_gcx]) rfl rfl rfl (some 49) rfl (fun w' hw' => exec_row _ _ rfl (w6.heap.size) rfl #[.slice a_grx gr.length c_grx, .slice a_gcx gc.length c_gcx] (blk_load blkG w' _ _ (hp_later HBX.out (hw' : Below w10.heap.size w10 w')) rfl)) ?_
  simp only [Act.put, List.setIfInBounds_toArray, List.set_cons_zero, List.set_cons_succ]
  refine mix_take 1 _ (.agg #[.slice a_gr gr.length c_gr, .slice a_gc gc.length c_gc]) rfl rfl rfl (some 50) rfl (fun w' hw' => exec_row _ _ rfl (w.heap.size) rfl #[.slice a_gr gr.length c_gr, .slice a_gc gc.length c_gc] (blk_load blkGL w' _ _ (hp_later HBA.out (hw' : Below w10.heap.size w10 w')) rfl)) ?_
  simp only [Act.put, List.setIfInBounds_toArray, List.set_cons_zero, List.set_cons_succ]
  refine mix_call 2 _ rfl rfl rfl 17 #[.agg #[.slice a_gr gr.length c_gr, .slice a_gc gc.length c_gc]] (some 51) rfl ?hr2 ?_
  case hr2 => go_simp
  refine (HTG.out _ ((Same.refl w10).drew _)).mono ?_
  rintro e w11 ⟨v_y1, v_y2, rfl, oy, hby⟩
  have hby' : Below w10.heap.size w10 w11 := ((Same.refl w10).drew w10.heap.size).trans hby
  obtain ⟨ay1, cy1, ay2, cy2, rfl, rfl, ry1, ry2⟩ := og_shape oy
  refine ⟨_, rfl, hby', ?_⟩
  simp only [Act.put, List.setIfInBounds_toArray, List.set_cons_zero, List.set_cons_succ]
  have hcy := chg_below hby'
  refine mix_call 3 _ rfl rfl rfl 19 #[.agg #[.slice a_grx gr.length c_grx, .slice a_gcx gc.length c_gcx], .agg #[.slice ay1 gr.length cy1, .slice ay2 gc.length cy2]] (some 52) rfl ?hr3 ?_
  case hr3 => go_simp
  have zy := hcy.size
  have oxy := og_keep o_gx hcy (by omega) (by omega)
  refine (eqGame_rd gr gc a_grx a_gcx ay1 ay2 _ _ _ _ c_grx c_gcx cy1 cy2 _ (og_rds oxy).1 (og_rds oxy).2 ry1 ry2 (by omega) (Nat.le_refl _) (by omega) (Nat.le_refl _)).mono ?_
  rintro e w12 ⟨rfl, hbe⟩
  have hbb : Below w10.heap.size w10 w12 := hby'.trans (hbe.mono (by omega))
  refine ⟨_, rfl, hbb, ?_⟩
  simp only [Act.put, List.setIfInBounds_toArray, List.set_cons_zero, List.set_cons_succ]
  refine mix_take 4 _ ?_ rfl rfl rfl (some 53) rfl (fun w' hw' => ?hv4) ?_
  case hv4 =>
    go_simp
    with_reducible rfl
  simp only [Act.put, List.setIfInBounds_toArray, List.set_cons_zero, List.set_cons_succ]
  refine mix_done ?_
  have hc := chg_below hbb
  clear hbb hbe hby' hby oxy oy ry1 ry2 hcy zy
  have z11 := hc.size
  replace h_gr := rdss_chg h_gr hc (by omega) (by omega)
  replace h_gc := rdss_chg h_gc hc (by omega) (by omega)
  replace ba := hp_chg ba hc (by omega)
  replace os0 := og_keep os0 hc (by omega) (by omega)
  replace bs := hp_chg bs hc (by omega)
  replace o_gx := og_keep o_gx hc (by omega) (by omega)
  replace bx := hp_chg bx hc (by omega)
  replace og0 := og_keep og0 hc (by omega) (by omega)
  replace bg := hp_chg bg hc (by omega)
  replace hB0 := below_chg hB0 hc (by omega) (by omega)
  clear hc
  have c0_ba := blk_cell ba 0 _ rfl
  have c1_ba := blk_cell ba 1 _ rfl
  have c0_bs := blk_cell bs 0 _ rfl
  have c1_bs := blk_cell bs 1 _ rfl
  have c0_bx := blk_cell bx 0 _ rfl
  have c1_bx := blk_cell bx 1 _ rfl
  have c0_bg := blk_cell bg 0 _ rfl
  have c1_bg := blk_cell bg 1 _ rfl
  go_wp2_with fail
  clear c0_ba c1_ba c0_bs c1_bs c0_bx c1_bx c0_bg c1_bg
  obtain ⟨lxr, hlxr, hsxr, hnxr⟩ := small_lens hsz_gr
  obtain ⟨lxc, hlxc, hsxc, hnxc⟩ := small_lens hsz_gc
  refine (markGame_chg lxr lxc gr gc hlxr hlxc hsxr hsxc hnxr hnxc a_grx a_gcx _ _ c_grx c_gcx _ o_gx (by omega)).mono ?_
  rintro e w13 ⟨rfl, -, hc⟩
  have htxr : offs lxr lxr.length ≤ 1099511627776 := Nat.le_trans (offs_big lxr hsxr lxr.length) (by omega)
  have htxc : offs lxc lxc.length ≤ 1099511627776 := Nat.le_trans (offs_big lxc hsxc lxc.length) (by omega)
  clear hlxr hsxr hlxc hsxc
  generalize offs lxr lxr.length = txr at htxr ⊢
  generalize offs lxc lxc.length = txc at htxc ⊢
  clear o_gx
  have z12 := hc.size
  replace h_gr := rdss_chg h_gr hc (by omega) (by omega)
  replace h_gc := rdss_chg h_gc hc (by omega) (by omega)
  replace ba := hp_chg ba hc (by omega)
  replace os0 := og_keep os0 hc (by omega) (by omega)
  replace bs := hp_chg bs hc (by omega)
  replace bx := hp_chg bx hc (by omega)
  replace og0 := og_keep og0 hc (by omega) (by omega)
  replace bg := hp_chg bg hc (by omega)
  replace hB0 := below_chg hB0 hc (by omega) (by omega)
  clear hc
  have c0_ba := blk_cell ba 0 _ rfl
  have c1_ba := blk_cell ba 1 _ rfl
  have c0_bs := blk_cell bs 0 _ rfl
  have c1_bs := blk_cell bs 1 _ rfl
  have c0_bx := blk_cell bx 0 _ rfl
  have c1_bx := blk_cell bx 1 _ rfl
  have c0_bg := blk_cell bg 0 _ rfl
  have c1_bg := blk_cell bg 1 _ rfl
  go_wp2_with fail
  clear c0_ba c1_ba c0_bs c1_bs c0_bx c1_bx c0_bg c1_bg
  refine (eqGame_rd r0a r0b ag0a ag0b as0a as0b _ _ _ _ cg0a cg0b cs0a cs0b _ (og_rds og0).1 (og_rds og0).2 (og_rds os0).1 (og_rds os0).2 (by omega) (by omega) (by omega) (by omega)).mono ?_
  rintro e w14 ⟨rfl, hb⟩
  have hc := chg_below hb
  clear hb
  have z13 := hc.size
  replace h_gr := rdss_chg h_gr hc (by omega) (by omega)
  replace h_gc := rdss_chg h_gc hc (by omega) (by omega)
  replace ba := hp_chg ba hc (by omega)
  replace os0 := og_keep os0 hc (by omega) (by omega)
  replace bs := hp_chg bs hc (by omega)
  replace bx := hp_chg bx hc (by omega)
  replace og0 := og_keep og0 hc (by omega) (by omega)
  replace bg := hp_chg bg hc (by omega)
  replace hB0 := below_chg hB0 hc (by omega) (by omega)
  clear hc
  have c0_ba := blk_cell ba 0 _ rfl
  have c1_ba := blk_cell ba 1 _ rfl
  have c0_bs := blk_cell bs 0 _ rfl
  have c1_bs := blk_cell bs 1 _ rfl
  have c0_bx := blk_cell bx 0 _ rfl
  have c1_bx := blk_cell bx 1 _ rfl
  have c0_bg := blk_cell bg 0 _ rfl
  have c1_bg := blk_cell bg 1 _ rfl
  go_wp2_with fail
  clear c0_ba c1_ba c0_bs c1_bs c0_bx c1_bx c0_bg c1_bg
  refine (markGame_chg lsr0a lsr0b r0a r0b HLSr0a.out HLSr0b.out HSMr0a.out HSMr0b.out (by omega) (by omega) ag0a ag0b _ _ cg0a cg0b _ og0 (by omega)).mono ?_
  rintro e w15 ⟨rfl, ⟨cma, cmb, hmka, hmkb, om0⟩, hc⟩
  generalize htoa : offs lsr0a lsr0a.length = tota at htor0a hmkb ⊢
  generalize htob : offs lsr0b lsr0b.length = totb at htor0b ⊢
  have HMKA := Lib.hid hmka
  have HMKB := Lib.hid hmkb
  clear hmka hmkb
  have HTA := Lib.hid htoa
  have HTB := Lib.hid htob
  clear htoa htob
  clear og0
  have z14 := hc.size
  replace h_gr := rdss_chg h_gr hc (by omega) (by omega)
  replace h_gc := rdss_chg h_gc hc (by omega) (by omega)
  replace ba := hp_chg ba hc (by omega)
  replace os0 := og_keep os0 hc (by omega) (by omega)
  replace bs := hp_chg bs hc (by omega)
  replace bx := hp_chg bx hc (by omega)
  replace bg := hp_chg bg hc (by omega)
  replace hB0 := below_chg hB0 hc (by omega) (by omega)
  clear hc
  have c0_ba := blk_cell ba 0 _ rfl
  have c1_ba := blk_cell ba 1 _ rfl
  have c0_bs := blk_cell bs 0 _ rfl
  have c1_bs := blk_cell bs 1 _ rfl
  have c0_bx := blk_cell bx 0 _ rfl
  have c1_bx := blk_cell bx 1 _ rfl
  have c0_bg := blk_cell bg 0 _ rfl
  have c1_bg := blk_cell bg 1 _ rfl
  go_wp2_with fail
  clear c0_ba c1_ba c0_bs c1_bs c0_bx c1_bx c0_bg c1_bg
  refine (heldGame_rd lsr0a lsr0b tota (by omega) HTA.out cma cmb HMKA.out HMKB.out HSMr0a.out HSMr0b.out (by omega) (by omega) totb (by omega) HTB.out ag0a ag0b _ _ _ cg0a cg0b (by rw [HMKA.out.1.1, HLSr0a.out.1]) (by rw [HMKB.out.1.1, HLSr0b.out.1]) _ (og_rdn om0).1 (og_rdn om0).2 (by omega)).mono ?_
  rintro e w16 ⟨rfl, hb⟩
  have hc := chg_below hb
  clear hb
  have z15 := hc.size
  replace h_gr := rdss_chg h_gr hc (by omega) (by omega)
  replace h_gc := rdss_chg h_gc hc (by omega) (by omega)
  replace ba := hp_chg ba hc (by omega)
  replace os0 := og_keep os0 hc (by omega) (by omega)
  replace bs := hp_chg bs hc (by omega)
  replace bx := hp_chg bx hc (by omega)
  replace bg := hp_chg bg hc (by omega)
  replace om0 := og_keep om0 hc (by omega) (by omega)
  replace hB0 := below_chg hB0 hc (by omega) (by omega)
  clear hc
  have c0_ba := blk_cell ba 0 _ rfl
  have c1_ba := blk_cell ba 1 _ rfl
  have c0_bs := blk_cell bs 0 _ rfl
  have c1_bs := blk_cell bs 1 _ rfl
  have c0_bx := blk_cell bx 0 _ rfl
  have c1_bx := blk_cell bx 1 _ rfl
  have c0_bg := blk_cell bg 0 _ rfl
  have c1_bg := blk_cell bg 1 _ rfl
  go_wp2_with fail
  clear c0_ba c1_ba c0_bs c1_bs c0_bx c1_bx c0_bg c1_bg
  refine (toGame_any gr gc a_gr a_gc c_gr c_gc _ _ h_gr h_gc (by omega) hsz_gr hsz_gc).mono ?_
  rintro e w17 ⟨v_grz, v_gcz, rfl, o_gz, hb⟩
  have hc := chg_below hb
  clear hb
  have z16 := hc.size
  replace h_gr := rdss_chg h_gr hc (by omega) (by omega)
  replace h_gc := rdss_chg h_gc hc (by omega) (by omega)
  replace ba := hp_chg ba hc (by omega)
  replace os0 := og_keep os0 hc (by omega) (by omega)
  replace bs := hp_chg bs hc (by omega)
  replace bx := hp_chg bx hc (by omega)
  replace bg := hp_chg bg hc (by omega)
  replace om0 := og_keep om0 hc (by omega) (by omega)
  replace hB0 := below_chg hB0 hc (by omega) (by omega)
  clear hc
  obtain ⟨a_grz, c_grz, a_gcz, c_gcz, rfl, rfl, rd_grz, rd_gcz⟩ := og_shape o_gz
  have c0_ba := blk_cell ba 0 _ rfl
  have c1_ba := blk_cell ba 1 _ rfl
  have c0_bs := blk_cell bs 0 _ rfl
  have c1_bs := blk_cell bs 1 _ rfl
  have c0_bx := blk_cell bx 0 _ rfl
  have c1_bx := blk_cell bx 1 _ rfl
  have c0_bg := blk_cell bg 0 _ rfl
  have c1_bg := blk_cell bg 1 _ rfl
  go_wp2_with fail
  clear c0_ba c1_ba c0_bs c1_bs c0_bx c1_bx c0_bg c1_bg
  refine (HI.out a_grz c_grz a_gcz c_gcz _ hsz_gr hsz_gc (rdss_mono rd_grz (by omega)) (rdss_mono rd_gcz (by omega))).mono ?_
  rintro e w18 ⟨vh0a, vh0b, rfl, oh0, hb⟩
  have hc := chg_below hb
  clear hb
  clear rd_grz
  clear rd_gcz
  have z17 := hc.size
  replace h_gr := rdss_chg h_gr hc (by omega) (by omega)
  replace h_gc := rdss_chg h_gc hc (by omega) (by omega)
  replace ba := hp_chg ba hc (by omega)
  replace os0 := og_keep os0 hc (by omega) (by omega)
  replace bs := hp_chg bs hc (by omega)
  replace bx := hp_chg bx hc (by omega)
  replace bg := hp_chg bg hc (by omega)
  replace om0 := og_keep om0 hc (by omega) (by omega)
  replace o_gz := og_keep o_gz hc (by omega) (by omega)
  replace hB0 := below_chg hB0 hc (by omega) (by omega)
  clear hc
  obtain ⟨ah0a, ch0a, ah0b, ch0b, rfl, rfl, -, -⟩ := og_shape oh0
  have c0_ba := blk_cell ba 0 _ rfl
  have c1_ba := blk_cell ba 1 _ rfl
  have c0_bs := blk_cell bs 0 _ rfl
  have c1_bs := blk_cell bs 1 _ rfl
  have c0_bx := blk_cell bx 0 _ rfl
  have c1_bx := blk_cell bx 1 _ rfl
  have c0_bg := blk_cell bg 0 _ rfl
  have c1_bg := blk_cell bg 1 _ rfl
  go_wp2_with (first | (with_reducible refine alloc_blk zgame run_alloc_game rfl rfl ?_) | ((with_reducible refine store_blk blkG rfl _ _ rfl (w18.heap.size) (#[.slice ah0a r0a.length ch0a, .slice ah0b r0b.length ch0b]) (zgame) ?_ ?_ (heap_alloc_new _ _) (rfl) (rfl) (by simp [Value.oneCell']) (w18.heap.size) (by omega) ?_); exact rfl; exact rfl; intro w19 hg hb hk hz; have n0_ := blk_cell hg 0 _ rfl; have n1_ := blk_cell hg 1 _ rfl; have hbb_ := (balloc (Below.refl w18.heap.size w18) (.cells zgame 27)).trans hb; have n0_ba := blk_cell (hp_later ba hbb_) 0 _ rfl; have n1_ba := blk_cell (hp_later ba hbb_) 1 _ rfl; have n0_bs := blk_cell (hp_later bs hbb_) 0 _ rfl; have n1_bs := blk_cell (hp_later bs hbb_) 1 _ rfl; have n0_bx := blk_cell (hp_later bx hbb_) 0 _ rfl; have n1_bx := blk_cell (hp_later bx hbb_) 1 _ rfl; have n0_bg := blk_cell (hp_later bg hbb_) 0 _ rfl; have n1_bg := blk_cell (hp_later bg hbb_) 1 _ rfl))
  clear n1_bg n0_bg n1_bx n0_bx n1_bs n0_bs n1_ba n0_ba hbb_ n1_ n0_
  clear c0_ba c1_ba c0_bs c1_bs c0_bx c1_bx c0_bg c1_bg
  have hc := chg_below ((balloc (Below.refl w18.heap.size w18) (.cells zgame 27)).trans hb)
  have hz1_ : (w18.alloc (.cells zgame 27)).heap.size = w18.heap.size + 1 := by simp
  rw [hz1_] at hz
  have bh := hg
  clear hg hb hk hz1_
  have z18 : w19.heap.size = w18.heap.size + 1 := hz
  clear hz
  replace h_gr := rdss_chg h_gr hc (by omega) (by omega)
  replace h_gc := rdss_chg h_gc hc (by omega) (by omega)
  replace ba := hp_chg ba hc (by omega)
  replace os0 := og_keep os0 hc (by omega) (by omega)
  replace bs := hp_chg bs hc (by omega)
  replace bx := hp_chg bx hc (by omega)
  replace bg := hp_chg bg hc (by omega)
  replace om0 := og_keep om0 hc (by omega) (by omega)
  replace o_gz := og_keep o_gz hc (by omega) (by omega)
  replace oh0 := og_keep oh0 hc (by omega) (by omega)
  replace hB0 := below_chg hB0 hc (by omega) (by omega)
  clear hc
  clear o_gz
  refine (eqGame_rd r0a r0b ah0a ah0b as0a as0b _ _ _ _ ch0a ch0b cs0a cs0b _ (og_rds oh0).1 (og_rds oh0).2 (og_rds os0).1 (og_rds os0).2 (by omega) (by omega) (by omega) (by omega)).mono ?_
  rintro e w20 ⟨rfl, hb⟩
  have hc := chg_below hb
  clear hb
  have z19 := hc.size
  replace h_gr := rdss_chg h_gr hc (by omega) (by omega)
  replace h_gc := rdss_chg h_gc hc (by omega) (by omega)
  replace ba := hp_chg ba hc (by omega)
  replace os0 := og_keep os0 hc (by omega) (by omega)
  replace bs := hp_chg bs hc (by omega)
  replace bx := hp_chg bx hc (by omega)
  replace bg := hp_chg bg hc (by omega)
  replace om0 := og_keep om0 hc (by omega) (by omega)
  replace oh0 := og_keep oh0 hc (by omega) (by omega)
  replace bh := hp_chg bh hc (by omega)
  replace hB0 := below_chg hB0 hc (by omega) (by omega)
  clear hc
  have c0_ba := blk_cell ba 0 _ rfl
  have c1_ba := blk_cell ba 1 _ rfl
  have c0_bs := blk_cell bs 0 _ rfl
  have c1_bs := blk_cell bs 1 _ rfl
  have c0_bx := blk_cell bx 0 _ rfl
  have c1_bx := blk_cell bx 1 _ rfl
  have c0_bg := blk_cell bg 0 _ rfl
  have c1_bg := blk_cell bg 1 _ rfl
  have c0_bh := blk_cell bh 0 _ rfl
  have c1_bh := blk_cell bh 1 _ rfl
  go_wp2_with fail
  clear c0_ba c1_ba c0_bs c1_bs c0_bx c1_bx c0_bg c1_bg c0_bh c1_bh
  refine (heldGame_rd lsr0a lsr0b tota (by omega) HTA.out cma cmb HMKA.out HMKB.out HSMr0a.out HSMr0b.out (by omega) (by omega) totb (by omega) HTB.out ag0a ag0b _ _ _ cg0a cg0b (by rw [HMKA.out.1.1, HLSr0a.out.1]) (by rw [HMKB.out.1.1, HLSr0b.out.1]) _ (og_rdn om0).1 (og_rdn om0).2 (by omega)).mono ?_
  rintro e w21 ⟨rfl, hb⟩
  have hc := chg_below hb
  clear hb
  have z20 := hc.size
  replace h_gr := rdss_chg h_gr hc (by omega) (by omega)
  replace h_gc := rdss_chg h_gc hc (by omega) (by omega)
  replace ba := hp_chg ba hc (by omega)
  replace os0 := og_keep os0 hc (by omega) (by omega)
  replace bs := hp_chg bs hc (by omega)
  replace bx := hp_chg bx hc (by omega)
  replace bg := hp_chg bg hc (by omega)
  replace om0 := og_keep om0 hc (by omega) (by omega)
  replace oh0 := og_keep oh0 hc (by omega) (by omega)
  replace bh := hp_chg bh hc (by omega)
  replace hB0 := below_chg hB0 hc (by omega) (by omega)
  clear hc
  have c0_ba := blk_cell ba 0 _ rfl
  have c1_ba := blk_cell ba 1 _ rfl
  have c0_bs := blk_cell bs 0 _ rfl
  have c1_bs := blk_cell bs 1 _ rfl
  have c0_bx := blk_cell bx 0 _ rfl
  have c1_bx := blk_cell bx 1 _ rfl
  have c0_bg := blk_cell bg 0 _ rfl
  have c1_bg := blk_cell bg 1 _ rfl
  have c0_bh := blk_cell bh 0 _ rfl
  have c1_bh := blk_cell bh 1 _ rfl
  go_wp2_with fail
  clear c0_ba c1_ba c0_bs c1_bs c0_bx c1_bx c0_bg c1_bg c0_bh c1_bh
  go_ret
  exact ⟨rfl, hB0⟩
end Go.Proofs.Ytlkgmnmnlfaopaa
