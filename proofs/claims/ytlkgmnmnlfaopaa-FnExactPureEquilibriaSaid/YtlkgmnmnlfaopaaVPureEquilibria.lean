import Derived.LoopN
import Derived.BigRegion
import Derived.RegionTactic
import Derived.Test.YtlkgmnmnlfaopaaQ5
import Derived.Test.YtlkgmnmnlfaopaaZa
namespace Go.Proofs.Ytlkgmnmnlfaopaa
open Go.RowKit
set_option maxRecDepth 4000
def OutPureEquilibria (w : World) (r0 : List (List Int)) (r1 : Bool) (e : Ending) (w' : World) : Prop := ∃ v0, e = .returned (.tuple #[v0, .bool r1]) ∧ OSS w' w.heap.size w'.heap.size v0 r0 ∧ Below w.heap.size w w'
set_option maxHeartbeats 3200000 in
theorem lawOf_PureEquilibria (gr : List (List Int)) (a_gr : Option Addr) (c_gr : Nat) (gc : List (List Int)) (a_gc : Option Addr) (c_gc : Nat) (w : World) (h_gr : RdSS w w.heap.size a_gr gr) (h_gc : RdSS w w.heap.size a_gc gc) (r0 : List (List Int)) (hLr0 : r0.length ≤ 100000) (hRr0 : ∀ k, (r0.getD k []).length ≤ 1000) (r1 : Bool)
    (hs : ∀ (a_gr' : Option Addr) (c_gr' : Nat) (a_gc' : Option Addr) (c_gc' : Nat) (w' : World), SmallSS gr → SmallSS gc → RdSS w' w'.heap.size a_gr' gr → RdSS w' w'.heap.size a_gc' gc → Calls Try.prog 35 #[.agg #[.slice a_gr' gr.length c_gr', .slice a_gc' gc.length c_gc']] w' (OutPureEquilibria w' r0 r1))
    (hi : ∀ (a_gr' : Option Addr) (c_gr' : Nat) (a_gc' : Option Addr) (c_gc' : Nat) (w' : World), SmallSS gr → SmallSS gc → RdSS w' w'.heap.size a_gr' gr → RdSS w' w'.heap.size a_gc' gc → Calls Try.prog 36 #[.agg #[.slice a_gr' gr.length c_gr', .slice a_gc' gc.length c_gc']] w' (OutPureEquilibria w' r0 r1)) :
    Calls Try.prog 9 #[.agg #[.slice a_gr gr.length c_gr, .slice a_gc gc.length c_gc]] w fun e w' => e = .returned (.bool true) ∧ Below w.heap.size w w' := by
  have HS := Lib.hid hs
  have HI := Lib.hid hi
  clear hs hi
  have hne1 : (r1 != r1) = false := by simp
  obtain ⟨lsr0, hlsr0, hsmr0, hlnr0⟩ : ∃ ls : List Nat, Lens ls r0 ∧ (∀ i, ls.getD i 0 ≤ 1000) ∧ ls.length ≤ 100000 := ⟨r0.map List.length, lens_self r0, fun i => by rw [← (lens_self r0).2 i]; exact hRr0 i, by simpa using hLr0⟩
  have HLSr0 := Lib.hid hlsr0
  have HSMr0 := Lib.hid (show ∀ j, lsr0.getD j 0 ≤ 1048576 from fun j => Nat.le_trans (hsmr0 j) (by omega))
  have htor0 : offs lsr0 lsr0.length ≤ 100000000 := Nat.le_trans (offs_le lsr0 hsmr0 lsr0.length) (by omega)
  clear hlsr0 hsmr0 hRr0
  have hB0 : Below w.heap.size w w := Below.refl _ _
  obtain ⟨w1, hww1⟩ : ∃ w1, w1 = (w.alloc (.cells #[.slice a_gr gr.length c_gr, .slice a_gc gc.length c_gc] 24)) := ⟨_, rfl⟩
  have hc : Chg 0 0 w w1 := by rw [hww1]; exact chg_below (balloc (Below.refl w.heap.size w) _)
  have ba : w1.heap[w.heap.size]? = some (.cells #[.slice a_gr gr.length c_gr, .slice a_gc gc.length c_gc] 24 (0, 0)) := by rw [hww1]; exact heap_alloc_new w _
  have hzw : w1.heap.size = w.heap.size + 1 := by rw [hww1]; simp
  have z1 := hc.size
  replace h_gr := rdss_chg h_gr hc (by omega) (by omega)
  replace h_gc := rdss_chg h_gc hc (by omega) (by omega)
  replace hB0 := below_chg hB0 hc (by omega) (by omega)
  clear hc
  have HW1 := Lib.hid hww1
  clear hww1
  go_enter Try.func9, Try.ntmps9
  go_wp2_with fail
  rw [← HW1.out]
  refine (szGame_any gr gc a_gr a_gc c_gr c_gc _ 1048576 (by omega) (by omega) _ h_gr h_gc (by omega)).mono ?_
  rintro e w2 ⟨l1, rfl, hb, hl⟩
  have hc := chg_below hb
  clear hb
  have z2 := hc.size
  replace h_gr := rdss_chg h_gr hc (by omega) (by omega)
  replace h_gc := rdss_chg h_gc hc (by omega) (by omega)
  replace ba := hp_chg ba hc (by omega)
  replace hB0 := below_chg hB0 hc (by omega) (by omega)
  clear hc
  rcases hl with hl | ⟨hl0, hl1, hsz_gr, hsz_gc⟩
  · go_wp2_with fail
    go_ret
    exact ⟨rfl, hB0⟩
  have c0_ba := blk_cell ba 0 _ rfl
  have c1_ba := blk_cell ba 1 _ rfl
  go_wp2_with fail
  clear c0_ba c1_ba
  refine (toGame_any gr gc a_gr a_gc c_gr c_gc _ _ h_gr h_gc (by omega) hsz_gr hsz_gc).mono ?_
  rintro e w3 ⟨v_grp, v_gcp, rfl, o_gp, hb⟩
  have hc := chg_below hb
  clear hb
  have z3 := hc.size
  replace h_gr := rdss_chg h_gr hc (by omega) (by omega)
  replace h_gc := rdss_chg h_gc hc (by omega) (by omega)
  replace ba := hp_chg ba hc (by omega)
  replace hB0 := below_chg hB0 hc (by omega) (by omega)
  clear hc
  obtain ⟨a_grp, c_grp, a_gcp, c_gcp, rfl, rfl, rd_grp, rd_gcp⟩ := og_shape o_gp
  have c0_ba := blk_cell ba 0 _ rfl
  have c1_ba := blk_cell ba 1 _ rfl
  go_wp2_with fail
  clear c0_ba c1_ba
  refine (HS.out a_grp c_grp a_gcp c_gcp _ hsz_gr hsz_gc (rdss_mono rd_grp (by omega)) (rdss_mono rd_gcp (by omega))).mono ?_
  rintro e w4 ⟨vs0, rfl, os0, hb⟩
  have hc := chg_below hb
  clear hb
  clear rd_grp
  clear rd_gcp
  have z4 := hc.size
  replace h_gr := rdss_chg h_gr hc (by omega) (by omega)
  replace h_gc := rdss_chg h_gc hc (by omega) (by omega)
  replace ba := hp_chg ba hc (by omega)
  replace o_gp := og_keep o_gp hc (by omega) (by omega)
  replace hB0 := below_chg hB0 hc (by omega) (by omega)
  clear hc
  obtain ⟨as0, cs0, rfl, -⟩ := oss_shape os0
  have c0_ba := blk_cell ba 0 _ rfl
  have c1_ba := blk_cell ba 1 _ rfl
  go_wp2_with fail
  clear c0_ba c1_ba
  clear o_gp
  refine (toGame_any gr gc a_gr a_gc c_gr c_gc _ _ h_gr h_gc (by omega) hsz_gr hsz_gc).mono ?_
  rintro e w5 ⟨v_grx, v_gcx, rfl, o_gx, hb⟩
  have hc := chg_below hb
  clear hb
  have z5 := hc.size
  replace h_gr := rdss_chg h_gr hc (by omega) (by omega)
  replace h_gc := rdss_chg h_gc hc (by omega) (by omega)
  replace ba := hp_chg ba hc (by omega)
  replace os0 := oss_keep os0 hc (by omega) (by omega)
  replace hB0 := below_chg hB0 hc (by omega) (by omega)
  clear hc
  obtain ⟨a_grx, c_grx, a_gcx, c_gcx, rfl, rfl, rd_grx, rd_gcx⟩ := og_shape o_gx
  have c0_ba := blk_cell ba 0 _ rfl
  have c1_ba := blk_cell ba 1 _ rfl
  go_wp2_with (first | (with_reducible refine alloc_blk zgame run_alloc_game rfl rfl ?_) | ((with_reducible refine store_blk blkG rfl _ _ rfl (w5.heap.size) (#[.slice a_grx gr.length c_grx, .slice a_gcx gc.length c_gcx]) (zgame) ?_ ?_ (heap_alloc_new _ _) (rfl) (rfl) (by simp [Value.oneCell']) (w5.heap.size) (by omega) ?_); exact rfl; exact rfl; intro w6 hg hb hk hz; have n0_ := blk_cell hg 0 _ rfl; have n1_ := blk_cell hg 1 _ rfl; have hbb_ := (balloc (Below.refl w5.heap.size w5) (.cells zgame 27)).trans hb; have n0_ba := blk_cell (hp_later ba hbb_) 0 _ rfl; have n1_ba := blk_cell (hp_later ba hbb_) 1 _ rfl))
  clear n1_ba n0_ba hbb_ n1_ n0_
  clear c0_ba c1_ba
  have hc := chg_below ((balloc (Below.refl w5.heap.size w5) (.cells zgame 27)).trans hb)
  have hz1_ : (w5.alloc (.cells zgame 27)).heap.size = w5.heap.size + 1 := by simp
  rw [hz1_] at hz
  have bx := hg
  clear hg hb hk hz1_
  have z6 : w6.heap.size = w5.heap.size + 1 := hz
  clear hz
  replace h_gr := rdss_chg h_gr hc (by omega) (by omega)
  replace h_gc := rdss_chg h_gc hc (by omega) (by omega)
  replace ba := hp_chg ba hc (by omega)
  replace os0 := oss_keep os0 hc (by omega) (by omega)
  replace o_gx := og_keep o_gx hc (by omega) (by omega)
  replace rd_grx := rdss_chg rd_grx hc (by omega) (by omega)
  replace rd_gcx := rdss_chg rd_gcx hc (by omega) (by omega)
  replace hB0 := below_chg hB0 hc (by omega) (by omega)
  clear hc
  refine (HI.out a_grx c_grx a_gcx c_gcx _ hsz_gr hsz_gc (rdss_mono rd_grx (by omega)) (rdss_mono rd_gcx (by omega))).mono ?_
  rintro e w7 ⟨vg0, rfl, og0, hb⟩
  have hc := chg_below hb
  clear hb
  clear rd_grx
  clear rd_gcx
  have z7 := hc.size
  replace h_gr := rdss_chg h_gr hc (by omega) (by omega)
  replace h_gc := rdss_chg h_gc hc (by omega) (by omega)
  replace ba := hp_chg ba hc (by omega)
  replace os0 := oss_keep os0 hc (by omega) (by omega)
  replace o_gx := og_keep o_gx hc (by omega) (by omega)
  replace bx := hp_chg bx hc (by omega)
  replace hB0 := below_chg hB0 hc (by omega) (by omega)
  clear hc
  obtain ⟨ag0, cg0, rfl, -⟩ := oss_shape og0
  have c0_ba := blk_cell ba 0 _ rfl
  have c1_ba := blk_cell ba 1 _ rfl
  have c0_bx := blk_cell bx 0 _ rfl
  have c1_bx := blk_cell bx 1 _ rfl
  go_wp2_with fail
  clear c0_ba c1_ba c0_bx c1_bx
  refine (eqIntSS_rd r0 ag0 as0 _ _ cg0 cs0 _ (oss_rds og0) (oss_rds os0)).mono ?_
  rintro e w8 ⟨rfl, hs⟩
  have hc := chg_same hs
  clear hs
  have z8 := hc.size
  replace h_gr := rdss_chg h_gr hc (by omega) (by omega)
  replace h_gc := rdss_chg h_gc hc (by omega) (by omega)
  replace ba := hp_chg ba hc (by omega)
  replace os0 := oss_keep os0 hc (by omega) (by omega)
  replace o_gx := og_keep o_gx hc (by omega) (by omega)
  replace bx := hp_chg bx hc (by omega)
  replace og0 := oss_keep og0 hc (by omega) (by omega)
  replace hB0 := below_chg hB0 hc (by omega) (by omega)
  clear hc
  have c0_ba := blk_cell ba 0 _ rfl
  have c1_ba := blk_cell ba 1 _ rfl
  have c0_bx := blk_cell bx 0 _ rfl
  have c1_bx := blk_cell bx 1 _ rfl
  go_wp2_with fail
  clear c0_ba c1_ba c0_bx c1_bx
  have HBX := Lib.hid bx
  have HBA := Lib.hid ba
  have HTG := Lib.hid (fun w' (hb : Below w8.heap.size w8 w') => toGame_any gr gc a_gr a_gc c_gr c_gc w.heap.size w' (rdss_chg h_gr (chg_below hb) (by omega) (.inr rfl)) (rdss_chg h_gc (chg_below hb) (by omega) (.inr rfl)) (by have := hb.size; omega) hsz_gr hsz_gc)
  refine wp_region_mix (fun w' => Below w8.heap.size w8 w') [2, 3] [0, 1, 2, 3, 4] (by kernel_rfl) (by kernel_rfl) (fun _ _ d _ _ h => by cases d <;> exact h) (by kernel_rfl) rfl ((Same.refl w8).drew _) ?_
  refine mix_take 0 _ (.agg #[.slice a_grx gr.length c_grx, .slice a_gcx gc.length c_gcx]) rfl rfl rfl (some 41) rfl (fun w' hw' => exec_row _ _ rfl (w5.heap.size) rfl #[.slice a_grx gr.length c_grx, .slice a_gcx gc.length c_gcx] (blk_load blkG w' _ _ (hp_later HBX.out (hw' : Below w8.heap.size w8 w')) rfl)) ?_
  simp only [Act.put, List.setIfInBounds_toArray, List.set_cons_zero, List.set_cons_succ]
  refine mix_take 1 _ (.agg #[.slice a_gr gr.length c_gr, .slice a_gc gc.length c_gc]) rfl rfl rfl (some 42) rfl (fun w' hw' => exec_row _ _ rfl (w.heap.size) rfl #[.slice a_gr gr.length c_gr, .slice a_gc gc.length c_gc] (blk_load blkGL w' _ _ (hp_later HBA.out (hw' : Below w8.heap.size w8 w')) rfl)) ?_
  simp only [Act.put, List.setIfInBounds_toArray, List.set_cons_zero, List.set_cons_succ]
  refine mix_call 2 _ rfl rfl rfl 17 #[.agg #[.slice a_gr gr.length c_gr, .slice a_gc gc.length c_gc]] (some 43) rfl ?hr2 ?_
  case hr2 => go_simp
  refine (HTG.out _ ((Same.refl w8).drew _)).mono ?_
  rintro e w9 ⟨v_y1, v_y2, rfl, oy, hby⟩
  have hby' : Below w8.heap.size w8 w9 := ((Same.refl w8).drew w8.heap.size).trans hby
  obtain ⟨ay1, cy1, ay2, cy2, rfl, rfl, ry1, ry2⟩ := og_shape oy
  refine ⟨_, rfl, hby', ?_⟩
  simp only [Act.put, List.setIfInBounds_toArray, List.set_cons_zero, List.set_cons_succ]
  have hcy := chg_below hby'
  refine mix_call 3 _ rfl rfl rfl 19 #[.agg #[.slice a_grx gr.length c_grx, .slice a_gcx gc.length c_gcx], .agg #[.slice ay1 gr.length cy1, .slice ay2 gc.length cy2]] (some 44) rfl ?hr3 ?_
  case hr3 => go_simp
  have zy := hcy.size
  have oxy := og_keep o_gx hcy (by omega) (by omega)
  refine (eqGame_rd gr gc a_grx a_gcx ay1 ay2 _ _ _ _ c_grx c_gcx cy1 cy2 _ (og_rds oxy).1 (og_rds oxy).2 ry1 ry2 (by omega) (Nat.le_refl _) (by omega) (Nat.le_refl _)).mono ?_
  rintro e w10 ⟨rfl, hbe⟩
  have hbb : Below w8.heap.size w8 w10 := hby'.trans (hbe.mono (by omega))
  refine ⟨_, rfl, hbb, ?_⟩
  simp only [Act.put, List.setIfInBounds_toArray, List.set_cons_zero, List.set_cons_succ]
  refine mix_take 4 _ ?_ rfl rfl rfl (some 45) rfl (fun w' hw' => ?hv4) ?_
  case hv4 =>
    go_simp
    with_reducible rfl
  simp only [Act.put, List.setIfInBounds_toArray, List.set_cons_zero, List.set_cons_succ]
  refine mix_done ?_
  have hc := chg_below hbb
  clear hbb hbe hby' hby oxy oy ry1 ry2 hcy zy
  have z9 := hc.size
  replace h_gr := rdss_chg h_gr hc (by omega) (by omega)
  replace h_gc := rdss_chg h_gc hc (by omega) (by omega)
  replace ba := hp_chg ba hc (by omega)
  replace os0 := oss_keep os0 hc (by omega) (by omega)
  replace o_gx := og_keep o_gx hc (by omega) (by omega)
  replace bx := hp_chg bx hc (by omega)
  replace og0 := oss_keep og0 hc (by omega) (by omega)
  replace hB0 := below_chg hB0 hc (by omega) (by omega)
  clear hc
  have c0_ba := blk_cell ba 0 _ rfl
  have c1_ba := blk_cell ba 1 _ rfl
  have c0_bx := blk_cell bx 0 _ rfl
  have c1_bx := blk_cell bx 1 _ rfl
  go_wp2_with fail
  clear c0_ba c1_ba c0_bx c1_bx
  obtain ⟨lxr, hlxr, hsxr, hnxr⟩ := small_lens hsz_gr
  obtain ⟨lxc, hlxc, hsxc, hnxc⟩ := small_lens hsz_gc
  refine (markGame_chg lxr lxc gr gc hlxr hlxc hsxr hsxc hnxr hnxc a_grx a_gcx _ _ c_grx c_gcx _ o_gx (by omega)).mono ?_
  rintro e w11 ⟨rfl, -, hc⟩
  have htxr : offs lxr lxr.length ≤ 1099511627776 := Nat.le_trans (offs_big lxr hsxr lxr.length) (by omega)
  have htxc : offs lxc lxc.length ≤ 1099511627776 := Nat.le_trans (offs_big lxc hsxc lxc.length) (by omega)
  clear hlxr hsxr hlxc hsxc
  generalize offs lxr lxr.length = txr at htxr ⊢
  generalize offs lxc lxc.length = txc at htxc ⊢
  clear o_gx
  have z10 := hc.size
  replace h_gr := rdss_chg h_gr hc (by omega) (by omega)
  replace h_gc := rdss_chg h_gc hc (by omega) (by omega)
  replace ba := hp_chg ba hc (by omega)
  replace os0 := oss_keep os0 hc (by omega) (by omega)
  replace bx := hp_chg bx hc (by omega)
  replace og0 := oss_keep og0 hc (by omega) (by omega)
  replace hB0 := below_chg hB0 hc (by omega) (by omega)
  clear hc
  have c0_ba := blk_cell ba 0 _ rfl
  have c1_ba := blk_cell ba 1 _ rfl
  have c0_bx := blk_cell bx 0 _ rfl
  have c1_bx := blk_cell bx 1 _ rfl
  go_wp2_with fail
  clear c0_ba c1_ba c0_bx c1_bx
  refine (eqIntSS_rd r0 ag0 as0 _ _ cg0 cs0 _ (oss_rds og0) (oss_rds os0)).mono ?_
  rintro e w12 ⟨rfl, hs⟩
  have hc := chg_same hs
  clear hs
  have z11 := hc.size
  replace h_gr := rdss_chg h_gr hc (by omega) (by omega)
  replace h_gc := rdss_chg h_gc hc (by omega) (by omega)
  replace ba := hp_chg ba hc (by omega)
  replace os0 := oss_keep os0 hc (by omega) (by omega)
  replace bx := hp_chg bx hc (by omega)
  replace og0 := oss_keep og0 hc (by omega) (by omega)
  replace hB0 := below_chg hB0 hc (by omega) (by omega)
  clear hc
  have c0_ba := blk_cell ba 0 _ rfl
  have c1_ba := blk_cell ba 1 _ rfl
  have c0_bx := blk_cell bx 0 _ rfl
  have c1_bx := blk_cell bx 1 _ rfl
  go_wp2_with fail
  clear c0_ba c1_ba c0_bx c1_bx
  refine (markIntSS_chg lsr0 r0 HLSr0.out HSMr0.out (by omega) ag0 _ _ cg0 1 (by omega) (by omega) _ og0).mono ?_
  rintro e w13 ⟨rfl, ⟨cm0, hmk0, om0⟩, hc⟩
  have HMK0 := Lib.hid hmk0
  clear hmk0
  clear og0
  have z12 := hc.size
  replace h_gr := rdss_chg h_gr hc (by omega) (by omega)
  replace h_gc := rdss_chg h_gc hc (by omega) (by omega)
  replace ba := hp_chg ba hc (by omega)
  replace os0 := oss_keep os0 hc (by omega) (by omega)
  replace bx := hp_chg bx hc (by omega)
  replace hB0 := below_chg hB0 hc (by omega) (by omega)
  clear hc
  generalize hto0' : offs lsr0 lsr0.length = tot0 at htor0
  have c0_ba := blk_cell ba 0 _ rfl
  have c1_ba := blk_cell ba 1 _ rfl
  have c0_bx := blk_cell bx 0 _ rfl
  have c1_bx := blk_cell bx 1 _ rfl
  go_wp2_with fail
  clear c0_ba c1_ba c0_bx c1_bx
  refine (heldIntSS_rd lsr0 cm0 1 (by omega) (by omega) HMK0.out HSMr0.out (by omega) ag0 _ _ cg0 (by rw [HMK0.out.1.1, HLSr0.out.1]) _ (oss_rds2 om0)).mono ?_
  rintro e w' ⟨rfl, rfl⟩
  rw [hto0']
  have c0_ba := blk_cell ba 0 _ rfl
  have c1_ba := blk_cell ba 1 _ rfl
  have c0_bx := blk_cell bx 0 _ rfl
  have c1_bx := blk_cell bx 1 _ rfl
  go_wp2_with fail
  clear c0_ba c1_ba c0_bx c1_bx
  refine (toGame_any gr gc a_gr a_gc c_gr c_gc _ _ h_gr h_gc (by omega) hsz_gr hsz_gc).mono ?_
  rintro e w14 ⟨v_grz, v_gcz, rfl, o_gz, hb⟩
  have hc := chg_below hb
  clear hb
  have z13 := hc.size
  replace h_gr := rdss_chg h_gr hc (by omega) (by omega)
  replace h_gc := rdss_chg h_gc hc (by omega) (by omega)
  replace ba := hp_chg ba hc (by omega)
  replace os0 := oss_keep os0 hc (by omega) (by omega)
  replace bx := hp_chg bx hc (by omega)
  replace om0 := oss_keep om0 hc (by omega) (by omega)
  replace hB0 := below_chg hB0 hc (by omega) (by omega)
  clear hc
  obtain ⟨a_grz, c_grz, a_gcz, c_gcz, rfl, rfl, rd_grz, rd_gcz⟩ := og_shape o_gz
  have c0_ba := blk_cell ba 0 _ rfl
  have c1_ba := blk_cell ba 1 _ rfl
  have c0_bx := blk_cell bx 0 _ rfl
  have c1_bx := blk_cell bx 1 _ rfl
  go_wp2_with fail
  clear c0_ba c1_ba c0_bx c1_bx
  refine (HI.out a_grz c_grz a_gcz c_gcz _ hsz_gr hsz_gc (rdss_mono rd_grz (by omega)) (rdss_mono rd_gcz (by omega))).mono ?_
  rintro e w15 ⟨vh0, rfl, oh0, hb⟩
  have hc := chg_below hb
  clear hb
  clear rd_grz
  clear rd_gcz
  have z14 := hc.size
  replace h_gr := rdss_chg h_gr hc (by omega) (by omega)
  replace h_gc := rdss_chg h_gc hc (by omega) (by omega)
  replace ba := hp_chg ba hc (by omega)
  replace os0 := oss_keep os0 hc (by omega) (by omega)
  replace bx := hp_chg bx hc (by omega)
  replace om0 := oss_keep om0 hc (by omega) (by omega)
  replace o_gz := og_keep o_gz hc (by omega) (by omega)
  replace hB0 := below_chg hB0 hc (by omega) (by omega)
  clear hc
  obtain ⟨ah0, ch0, rfl, -⟩ := oss_shape oh0
  have c0_ba := blk_cell ba 0 _ rfl
  have c1_ba := blk_cell ba 1 _ rfl
  have c0_bx := blk_cell bx 0 _ rfl
  have c1_bx := blk_cell bx 1 _ rfl
  go_wp2_with fail
  clear c0_ba c1_ba c0_bx c1_bx
  clear o_gz
  refine (eqIntSS_rd r0 ah0 as0 _ _ ch0 cs0 _ (oss_rds oh0) (oss_rds os0)).mono ?_
  rintro e w16 ⟨rfl, hs⟩
  have hc := chg_same hs
  clear hs
  have z15 := hc.size
  replace h_gr := rdss_chg h_gr hc (by omega) (by omega)
  replace h_gc := rdss_chg h_gc hc (by omega) (by omega)
  replace ba := hp_chg ba hc (by omega)
  replace os0 := oss_keep os0 hc (by omega) (by omega)
  replace bx := hp_chg bx hc (by omega)
  replace om0 := oss_keep om0 hc (by omega) (by omega)
  replace oh0 := oss_keep oh0 hc (by omega) (by omega)
  replace hB0 := below_chg hB0 hc (by omega) (by omega)
  clear hc
  have c0_ba := blk_cell ba 0 _ rfl
  have c1_ba := blk_cell ba 1 _ rfl
  have c0_bx := blk_cell bx 0 _ rfl
  have c1_bx := blk_cell bx 1 _ rfl
  go_wp2_with fail
  clear c0_ba c1_ba c0_bx c1_bx
  refine (heldIntSS_rd lsr0 cm0 1 (by omega) (by omega) HMK0.out HSMr0.out (by omega) ag0 _ _ cg0 (by rw [HMK0.out.1.1, HLSr0.out.1]) _ (oss_rds2 om0)).mono ?_
  rintro e w' ⟨rfl, rfl⟩
  rw [hto0']
  have c0_ba := blk_cell ba 0 _ rfl
  have c1_ba := blk_cell ba 1 _ rfl
  have c0_bx := blk_cell bx 0 _ rfl
  have c1_bx := blk_cell bx 1 _ rfl
  go_wp2_with fail
  clear c0_ba c1_ba c0_bx c1_bx
  go_ret
  exact ⟨rfl, hB0⟩
end Go.Proofs.Ytlkgmnmnlfaopaa
