import Derived.LoopN
import Derived.BigRegion
import Derived.RegionTactic
import Derived.Test.YtlkgmnmnlfaopaaQ5
import Derived.Test.YtlkgmnmnlfaopaaZa
namespace Go.Proofs.Ytlkgmnmnlfaopaa
open Go.RowKit
set_option maxRecDepth 4000
def OutZeroSum (w : World) (r0a : List (List Int)) (r0b : List (List Int)) (r1 : Bool) (e : Ending) (w' : World) : Prop := ∃ v0a v0b, e = .returned (.tuple #[.agg #[v0a, v0b], .bool r1]) ∧ OG w' w.heap.size w'.heap.size v0a v0b r0a r0b ∧ Below w.heap.size w w'
set_option maxHeartbeats 3200000 in
theorem lawOf_ZeroSum (g : List (List Int)) (a_g : Option Addr) (c_g : Nat) (w : World) (h_g : RdSS w w.heap.size a_g g) (r0a : List (List Int)) (hLr0a : r0a.length ≤ 100000) (hRr0a : ∀ k, (r0a.getD k []).length ≤ 1000) (r0b : List (List Int)) (hLr0b : r0b.length ≤ 100000) (hRr0b : ∀ k, (r0b.getD k []).length ≤ 1000) (r1 : Bool)
    (hs : ∀ (a_g' : Option Addr) (c_g' : Nat) (w' : World), SmallSS g → RdSS w' w'.heap.size a_g' g → Calls Try.prog 46 #[.slice a_g' g.length c_g'] w' (OutZeroSum w' r0a r0b r1))
    (hi : ∀ (a_g' : Option Addr) (c_g' : Nat) (w' : World), SmallSS g → RdSS w' w'.heap.size a_g' g → Calls Try.prog 48 #[.slice a_g' g.length c_g'] w' (OutZeroSum w' r0a r0b r1)) :
    Calls Try.prog 12 #[.slice a_g g.length c_g] w fun e w' => e = .returned (.bool true) ∧ Below w.heap.size w w' := by
  have HS := Lib.hid hs
  have HI := Lib.hid hi
  clear hs hi
  have hne1 : (r1 != r1) = false := by simp
  obtain ⟨lsr0a, hlsr0a, hsmr0a, hlnr0a⟩ : ∃ ls : List Nat, Lens ls r0a ∧ (∀ i, ls.getD i 0 ≤ 1000) ∧ ls.length ≤ 100000 := ⟨r0a.map List.length, lens_self r0a, fun i => by rw [← (lens_self r0a).2 i]; exact hRr0a i, by simpa using hLr0a⟩
  have HLSr0a := Lib.hid hlsr0a
  have HSMr0a := Lib.hid (show ∀ j, lsr0a.getD j 0 ≤ 1048576 from fun j => Nat.le_trans (hsmr0a j) (by omega))
  have htor0a : offs lsr0a lsr0a.length ≤ 100000000 := Nat.le_trans (offs_le lsr0a hsmr0a lsr0a.length) (by omega)
  clear hlsr0a hsmr0a hRr0a
  obtain ⟨lsr0b, hlsr0b, hsmr0b, hlnr0b⟩ : ∃ ls : List Nat, Lens ls r0b ∧ (∀ i, ls.getD i 0 ≤ 1000) ∧ ls.length ≤ 100000 := ⟨r0b.map List.length, lens_self r0b, fun i => by rw [← (lens_self r0b).2 i]; exact hRr0b i, by simpa using hLr0b⟩
  have HLSr0b := Lib.hid hlsr0b
  have HSMr0b := Lib.hid (show ∀ j, lsr0b.getD j 0 ≤ 1048576 from fun j => Nat.le_trans (hsmr0b j) (by omega))
  have htor0b : offs lsr0b lsr0b.length ≤ 100000000 := Nat.le_trans (offs_le lsr0b hsmr0b lsr0b.length) (by omega)
  clear hlsr0b hsmr0b hRr0b
  have hB0 : Below w.heap.size w w := Below.refl _ _
  go_enter Try.func12, Try.ntmps12
  go_wp2_with fail
  refine (szIntSS_any g a_g c_g _ 1048576 (by omega) (by omega) _ h_g).mono ?_
  rintro e w' ⟨l1, rfl, rfl, hl⟩
  rcases hl with hl | ⟨hl0, hl1, hsz_g⟩
  · go_wp2_with fail
    go_ret
    exact ⟨rfl, hB0⟩
  go_wp2_with fail
  refine (toIntSS_any g a_g c_g _ _ h_g (by omega) hsz_g).mono ?_
  rintro e w1 ⟨v_gp, rfl, o_gp, hb⟩
  have hc := chg_below hb
  clear hb
  have z1 := hc.size
  replace h_g := rdss_chg h_g hc (by omega) (by omega)
  replace hB0 := below_chg hB0 hc (by omega) (by omega)
  clear hc
  obtain ⟨a_gp, c_gp, rfl, rd_gp⟩ := oss_shape o_gp
  go_wp2_with fail
  refine (HS.out a_gp c_gp _ hsz_g (rdss_mono rd_gp (by omega))).mono ?_
  rintro e w2 ⟨vs0a, vs0b, rfl, os0, hb⟩
  have hc := chg_below hb
  clear hb
  clear rd_gp
  have z2 := hc.size
  replace h_g := rdss_chg h_g hc (by omega) (by omega)
  replace o_gp := oss_keep o_gp hc (by omega) (by omega)
  replace hB0 := below_chg hB0 hc (by omega) (by omega)
  clear hc
  obtain ⟨as0a, cs0a, as0b, cs0b, rfl, rfl, -, -⟩ := og_shape os0
  go_wp2_with (first | (with_reducible refine alloc_blk zgame run_alloc_game rfl rfl ?_) | ((with_reducible refine store_blk blkG rfl _ _ rfl (w2.heap.size) (#[.slice as0a r0a.length cs0a, .slice as0b r0b.length cs0b]) (zgame) ?_ ?_ (heap_alloc_new _ _) (rfl) (rfl) (by simp [Value.oneCell']) (w2.heap.size) (by omega) ?_); exact rfl; exact rfl; intro w3 hg hb hk hz; have n0_ := blk_cell hg 0 _ rfl; have n1_ := blk_cell hg 1 _ rfl; have hbb_ := (balloc (Below.refl w2.heap.size w2) (.cells zgame 27)).trans hb))
  clear hbb_ n1_ n0_
  have hc := chg_below ((balloc (Below.refl w2.heap.size w2) (.cells zgame 27)).trans hb)
  have hz1_ : (w2.alloc (.cells zgame 27)).heap.size = w2.heap.size + 1 := by simp
  rw [hz1_] at hz
  have bs := hg
  clear hg hb hk hz1_
  have z3 : w3.heap.size = w2.heap.size + 1 := hz
  clear hz
  replace h_g := rdss_chg h_g hc (by omega) (by omega)
  replace o_gp := oss_keep o_gp hc (by omega) (by omega)
  replace os0 := og_keep os0 hc (by omega) (by omega)
  replace hB0 := below_chg hB0 hc (by omega) (by omega)
  clear hc
  clear o_gp
  refine (toIntSS_any g a_g c_g _ _ h_g (by omega) hsz_g).mono ?_
  rintro e w4 ⟨v_gx, rfl, o_gx, hb⟩
  have hc := chg_below hb
  clear hb
  have z4 := hc.size
  replace h_g := rdss_chg h_g hc (by omega) (by omega)
  replace os0 := og_keep os0 hc (by omega) (by omega)
  replace bs := hp_chg bs hc (by omega)
  replace hB0 := below_chg hB0 hc (by omega) (by omega)
  clear hc
  obtain ⟨a_gx, c_gx, rfl, rd_gx⟩ := oss_shape o_gx
  have c0_bs := blk_cell bs 0 _ rfl
  have c1_bs := blk_cell bs 1 _ rfl
  go_wp2_with fail
  clear c0_bs c1_bs
  refine (HI.out a_gx c_gx _ hsz_g (rdss_mono rd_gx (by omega))).mono ?_
  rintro e w5 ⟨vg0a, vg0b, rfl, og0, hb⟩
  have hc := chg_below hb
  clear hb
  clear rd_gx
  have z5 := hc.size
  replace h_g := rdss_chg h_g hc (by omega) (by omega)
  replace os0 := og_keep os0 hc (by omega) (by omega)
  replace bs := hp_chg bs hc (by omega)
  replace o_gx := oss_keep o_gx hc (by omega) (by omega)
  replace hB0 := below_chg hB0 hc (by omega) (by omega)
  clear hc
  obtain ⟨ag0a, cg0a, ag0b, cg0b, rfl, rfl, -, -⟩ := og_shape og0
  have c0_bs := blk_cell bs 0 _ rfl
  have c1_bs := blk_cell bs 1 _ rfl
  go_wp2_with (first | (with_reducible refine alloc_blk zgame run_alloc_game rfl rfl ?_) | ((with_reducible refine store_blk blkG rfl _ _ rfl (w5.heap.size) (#[.slice ag0a r0a.length cg0a, .slice ag0b r0b.length cg0b]) (zgame) ?_ ?_ (heap_alloc_new _ _) (rfl) (rfl) (by simp [Value.oneCell']) (w5.heap.size) (by omega) ?_); exact rfl; exact rfl; intro w6 hg hb hk hz; have n0_ := blk_cell hg 0 _ rfl; have n1_ := blk_cell hg 1 _ rfl; have hbb_ := (balloc (Below.refl w5.heap.size w5) (.cells zgame 27)).trans hb; have n0_bs := blk_cell (hp_later bs hbb_) 0 _ rfl; have n1_bs := blk_cell (hp_later bs hbb_) 1 _ rfl))
  clear n1_bs n0_bs hbb_ n1_ n0_
  clear c0_bs c1_bs
  have hc := chg_below ((balloc (Below.refl w5.heap.size w5) (.cells zgame 27)).trans hb)
  have hz1_ : (w5.alloc (.cells zgame 27)).heap.size = w5.heap.size + 1 := by simp
  rw [hz1_] at hz
  have bg := hg
  clear hg hb hk hz1_
  have z6 : w6.heap.size = w5.heap.size + 1 := hz
  clear hz
  replace h_g := rdss_chg h_g hc (by omega) (by omega)
  replace os0 := og_keep os0 hc (by omega) (by omega)
  replace bs := hp_chg bs hc (by omega)
  replace o_gx := oss_keep o_gx hc (by omega) (by omega)
  replace og0 := og_keep og0 hc (by omega) (by omega)
  replace hB0 := below_chg hB0 hc (by omega) (by omega)
  clear hc
  refine (eqGame_rd r0a r0b ag0a ag0b as0a as0b _ _ _ _ cg0a cg0b cs0a cs0b _ (og_rds og0).1 (og_rds og0).2 (og_rds os0).1 (og_rds os0).2 (by omega) (by omega) (by omega) (by omega)).mono ?_
  rintro e w7 ⟨rfl, hb⟩
  have hc := chg_below hb
  clear hb
  have z7 := hc.size
  replace h_g := rdss_chg h_g hc (by omega) (by omega)
  replace os0 := og_keep os0 hc (by omega) (by omega)
  replace bs := hp_chg bs hc (by omega)
  replace o_gx := oss_keep o_gx hc (by omega) (by omega)
  replace og0 := og_keep og0 hc (by omega) (by omega)
  replace bg := hp_chg bg hc (by omega)
  replace hB0 := below_chg hB0 hc (by omega) (by omega)
  clear hc
  have c0_bs := blk_cell bs 0 _ rfl
  have c1_bs := blk_cell bs 1 _ rfl
  have c0_bg := blk_cell bg 0 _ rfl
  have c1_bg := blk_cell bg 1 _ rfl
  go_wp2_with fail
  clear c0_bs c1_bs c0_bg c1_bg
  refine (toIntSS_any g a_g c_g _ _ h_g (by omega) hsz_g).mono ?_
  rintro e w8 ⟨v_gy, rfl, o_gy, hb⟩
  have hc := chg_below hb
  clear hb
  have z8 := hc.size
  replace h_g := rdss_chg h_g hc (by omega) (by omega)
  replace os0 := og_keep os0 hc (by omega) (by omega)
  replace bs := hp_chg bs hc (by omega)
  replace o_gx := oss_keep o_gx hc (by omega) (by omega)
  replace og0 := og_keep og0 hc (by omega) (by omega)
  replace bg := hp_chg bg hc (by omega)
  replace hB0 := below_chg hB0 hc (by omega) (by omega)
  clear hc
  obtain ⟨a_gy, c_gy, rfl, rd_gy⟩ := oss_shape o_gy
  clear rd_gy
  have c0_bs := blk_cell bs 0 _ rfl
  have c1_bs := blk_cell bs 1 _ rfl
  have c0_bg := blk_cell bg 0 _ rfl
  have c1_bg := blk_cell bg 1 _ rfl
  go_wp2_with fail
  clear c0_bs c1_bs c0_bg c1_bg
  refine (eqIntSS_rd g a_gx a_gy _ _ c_gx c_gy _ (oss_rds o_gx) (oss_rds o_gy)).mono ?_
  rintro e w9 ⟨rfl, hs⟩
  have hc := chg_same hs
  clear hs
  have z9 := hc.size
  replace h_g := rdss_chg h_g hc (by omega) (by omega)
  replace os0 := og_keep os0 hc (by omega) (by omega)
  replace bs := hp_chg bs hc (by omega)
  replace o_gx := oss_keep o_gx hc (by omega) (by omega)
  replace og0 := og_keep og0 hc (by omega) (by omega)
  replace bg := hp_chg bg hc (by omega)
  replace o_gy := oss_keep o_gy hc (by omega) (by omega)
  replace hB0 := below_chg hB0 hc (by omega) (by omega)
  clear hc
  have c0_bs := blk_cell bs 0 _ rfl
  have c1_bs := blk_cell bs 1 _ rfl
  have c0_bg := blk_cell bg 0 _ rfl
  have c1_bg := blk_cell bg 1 _ rfl
  go_wp2_with fail
  clear c0_bs c1_bs c0_bg c1_bg
  clear o_gy
  obtain ⟨lx0, hlx0, hsx0, hnx0⟩ := small_lens hsz_g
  refine (markIntSS_chg lx0 g hlx0 hsx0 hnx0 a_gx _ _ c_gx _ (by omega) (by omega) _ o_gx).mono ?_
  rintro e w10 ⟨rfl, -, hc⟩
  have htx0 : offs lx0 lx0.length ≤ 1099511627776 := Nat.le_trans (offs_big lx0 hsx0 lx0.length) (by omega)
  clear hlx0 hsx0
  generalize offs lx0 lx0.length = tx0 at htx0 ⊢
  clear o_gx
  have z10 := hc.size
  replace h_g := rdss_chg h_g hc (by omega) (by omega)
  replace os0 := og_keep os0 hc (by omega) (by omega)
  replace bs := hp_chg bs hc (by omega)
  replace og0 := og_keep og0 hc (by omega) (by omega)
  replace bg := hp_chg bg hc (by omega)
  replace hB0 := below_chg hB0 hc (by omega) (by omega)
  clear hc
  have c0_bs := blk_cell bs 0 _ rfl
  have c1_bs := blk_cell bs 1 _ rfl
  have c0_bg := blk_cell bg 0 _ rfl
  have c1_bg := blk_cell bg 1 _ rfl
  go_wp2_with fail
  clear c0_bs c1_bs c0_bg c1_bg
  refine (eqGame_rd r0a r0b ag0a ag0b as0a as0b _ _ _ _ cg0a cg0b cs0a cs0b _ (og_rds og0).1 (og_rds og0).2 (og_rds os0).1 (og_rds os0).2 (by omega) (by omega) (by omega) (by omega)).mono ?_
  rintro e w11 ⟨rfl, hb⟩
  have hc := chg_below hb
  clear hb
  have z11 := hc.size
  replace h_g := rdss_chg h_g hc (by omega) (by omega)
  replace os0 := og_keep os0 hc (by omega) (by omega)
  replace bs := hp_chg bs hc (by omega)
  replace og0 := og_keep og0 hc (by omega) (by omega)
  replace bg := hp_chg bg hc (by omega)
  replace hB0 := below_chg hB0 hc (by omega) (by omega)
  clear hc
  have c0_bs := blk_cell bs 0 _ rfl
  have c1_bs := blk_cell bs 1 _ rfl
  have c0_bg := blk_cell bg 0 _ rfl
  have c1_bg := blk_cell bg 1 _ rfl
  go_wp2_with fail
  clear c0_bs c1_bs c0_bg c1_bg
  refine (markGame_chg lsr0a lsr0b r0a r0b HLSr0a.out HLSr0b.out HSMr0a.out HSMr0b.out (by omega) (by omega) ag0a ag0b _ _ cg0a cg0b _ og0 (by omega)).mono ?_
  rintro e w12 ⟨rfl, ⟨cma, cmb, hmka, hmkb, om0⟩, hc⟩
  generalize htoa : offs lsr0a lsr0a.length = tota at htor0a hmkb ⊢
  generalize htob : offs lsr0b lsr0b.length = totb at htor0b ⊢
  have HMKA := Lib.hid hmka
  have HMKB := Lib.hid hmkb
  clear hmka hmkb
  have HTA := Lib.hid htoa
  have HTB := Lib.hid htob
  clear htoa htob
  clear og0
  have z12 := hc.size
  replace h_g := rdss_chg h_g hc (by omega) (by omega)
  replace os0 := og_keep os0 hc (by omega) (by omega)
  replace bs := hp_chg bs hc (by omega)
  replace bg := hp_chg bg hc (by omega)
  replace hB0 := below_chg hB0 hc (by omega) (by omega)
  clear hc
  have c0_bs := blk_cell bs 0 _ rfl
  have c1_bs := blk_cell bs 1 _ rfl
  have c0_bg := blk_cell bg 0 _ rfl
  have c1_bg := blk_cell bg 1 _ rfl
  go_wp2_with fail
  clear c0_bs c1_bs c0_bg c1_bg
  refine (heldGame_rd lsr0a lsr0b tota (by omega) HTA.out cma cmb HMKA.out HMKB.out HSMr0a.out HSMr0b.out (by omega) (by omega) totb (by omega) HTB.out ag0a ag0b _ _ _ cg0a cg0b (by rw [HMKA.out.1.1, HLSr0a.out.1]) (by rw [HMKB.out.1.1, HLSr0b.out.1]) _ (og_rdn om0).1 (og_rdn om0).2 (by omega)).mono ?_
  rintro e w13 ⟨rfl, hb⟩
  have hc := chg_below hb
  clear hb
  have z13 := hc.size
  replace h_g := rdss_chg h_g hc (by omega) (by omega)
  replace os0 := og_keep os0 hc (by omega) (by omega)
  replace bs := hp_chg bs hc (by omega)
  replace bg := hp_chg bg hc (by omega)
  replace om0 := og_keep om0 hc (by omega) (by omega)
  replace hB0 := below_chg hB0 hc (by omega) (by omega)
  clear hc
  have c0_bs := blk_cell bs 0 _ rfl
  have c1_bs := blk_cell bs 1 _ rfl
  have c0_bg := blk_cell bg 0 _ rfl
  have c1_bg := blk_cell bg 1 _ rfl
  go_wp2_with fail
  clear c0_bs c1_bs c0_bg c1_bg
  refine (toIntSS_any g a_g c_g _ _ h_g (by omega) hsz_g).mono ?_
  rintro e w14 ⟨v_gz, rfl, o_gz, hb⟩
  have hc := chg_below hb
  clear hb
  have z14 := hc.size
  replace h_g := rdss_chg h_g hc (by omega) (by omega)
  replace os0 := og_keep os0 hc (by omega) (by omega)
  replace bs := hp_chg bs hc (by omega)
  replace bg := hp_chg bg hc (by omega)
  replace om0 := og_keep om0 hc (by omega) (by omega)
  replace hB0 := below_chg hB0 hc (by omega) (by omega)
  clear hc
  obtain ⟨a_gz, c_gz, rfl, rd_gz⟩ := oss_shape o_gz
  have c0_bs := blk_cell bs 0 _ rfl
  have c1_bs := blk_cell bs 1 _ rfl
  have c0_bg := blk_cell bg 0 _ rfl
  have c1_bg := blk_cell bg 1 _ rfl
  go_wp2_with fail
  clear c0_bs c1_bs c0_bg c1_bg
  refine (HI.out a_gz c_gz _ hsz_g (rdss_mono rd_gz (by omega))).mono ?_
  rintro e w15 ⟨vh0a, vh0b, rfl, oh0, hb⟩
  have hc := chg_below hb
  clear hb
  clear rd_gz
  have z15 := hc.size
  replace h_g := rdss_chg h_g hc (by omega) (by omega)
  replace os0 := og_keep os0 hc (by omega) (by omega)
  replace bs := hp_chg bs hc (by omega)
  replace bg := hp_chg bg hc (by omega)
  replace om0 := og_keep om0 hc (by omega) (by omega)
  replace o_gz := oss_keep o_gz hc (by omega) (by omega)
  replace hB0 := below_chg hB0 hc (by omega) (by omega)
  clear hc
  obtain ⟨ah0a, ch0a, ah0b, ch0b, rfl, rfl, -, -⟩ := og_shape oh0
  have c0_bs := blk_cell bs 0 _ rfl
  have c1_bs := blk_cell bs 1 _ rfl
  have c0_bg := blk_cell bg 0 _ rfl
  have c1_bg := blk_cell bg 1 _ rfl
  go_wp2_with (first | (with_reducible refine alloc_blk zgame run_alloc_game rfl rfl ?_) | ((with_reducible refine store_blk blkG rfl _ _ rfl (w15.heap.size) (#[.slice ah0a r0a.length ch0a, .slice ah0b r0b.length ch0b]) (zgame) ?_ ?_ (heap_alloc_new _ _) (rfl) (rfl) (by simp [Value.oneCell']) (w15.heap.size) (by omega) ?_); exact rfl; exact rfl; intro w16 hg hb hk hz; have n0_ := blk_cell hg 0 _ rfl; have n1_ := blk_cell hg 1 _ rfl; have hbb_ := (balloc (Below.refl w15.heap.size w15) (.cells zgame 27)).trans hb; have n0_bs := blk_cell (hp_later bs hbb_) 0 _ rfl; have n1_bs := blk_cell (hp_later bs hbb_) 1 _ rfl; have n0_bg := blk_cell (hp_later bg hbb_) 0 _ rfl; have n1_bg := blk_cell (hp_later bg hbb_) 1 _ rfl))
  clear n1_bg n0_bg n1_bs n0_bs hbb_ n1_ n0_
  clear c0_bs c1_bs c0_bg c1_bg
  have hc := chg_below ((balloc (Below.refl w15.heap.size w15) (.cells zgame 27)).trans hb)
  have hz1_ : (w15.alloc (.cells zgame 27)).heap.size = w15.heap.size + 1 := by simp
  rw [hz1_] at hz
  have bh := hg
  clear hg hb hk hz1_
  have z16 : w16.heap.size = w15.heap.size + 1 := hz
  clear hz
  replace h_g := rdss_chg h_g hc (by omega) (by omega)
  replace os0 := og_keep os0 hc (by omega) (by omega)
  replace bs := hp_chg bs hc (by omega)
  replace bg := hp_chg bg hc (by omega)
  replace om0 := og_keep om0 hc (by omega) (by omega)
  replace o_gz := oss_keep o_gz hc (by omega) (by omega)
  replace oh0 := og_keep oh0 hc (by omega) (by omega)
  replace hB0 := below_chg hB0 hc (by omega) (by omega)
  clear hc
  clear o_gz
  refine (eqGame_rd r0a r0b ah0a ah0b as0a as0b _ _ _ _ ch0a ch0b cs0a cs0b _ (og_rds oh0).1 (og_rds oh0).2 (og_rds os0).1 (og_rds os0).2 (by omega) (by omega) (by omega) (by omega)).mono ?_
  rintro e w17 ⟨rfl, hb⟩
  have hc := chg_below hb
  clear hb
  have z17 := hc.size
  replace h_g := rdss_chg h_g hc (by omega) (by omega)
  replace os0 := og_keep os0 hc (by omega) (by omega)
  replace bs := hp_chg bs hc (by omega)
  replace bg := hp_chg bg hc (by omega)
  replace om0 := og_keep om0 hc (by omega) (by omega)
  replace oh0 := og_keep oh0 hc (by omega) (by omega)
  replace bh := hp_chg bh hc (by omega)
  replace hB0 := below_chg hB0 hc (by omega) (by omega)
  clear hc
  have c0_bs := blk_cell bs 0 _ rfl
  have c1_bs := blk_cell bs 1 _ rfl
  have c0_bg := blk_cell bg 0 _ rfl
  have c1_bg := blk_cell bg 1 _ rfl
  have c0_bh := blk_cell bh 0 _ rfl
  have c1_bh := blk_cell bh 1 _ rfl
  go_wp2_with fail
  clear c0_bs c1_bs c0_bg c1_bg c0_bh c1_bh
  refine (heldGame_rd lsr0a lsr0b tota (by omega) HTA.out cma cmb HMKA.out HMKB.out HSMr0a.out HSMr0b.out (by omega) (by omega) totb (by omega) HTB.out ag0a ag0b _ _ _ cg0a cg0b (by rw [HMKA.out.1.1, HLSr0a.out.1]) (by rw [HMKB.out.1.1, HLSr0b.out.1]) _ (og_rdn om0).1 (og_rdn om0).2 (by omega)).mono ?_
  rintro e w18 ⟨rfl, hb⟩
  have hc := chg_below hb
  clear hb
  have z18 := hc.size
  replace h_g := rdss_chg h_g hc (by omega) (by omega)
  replace os0 := og_keep os0 hc (by omega) (by omega)
  replace bs := hp_chg bs hc (by omega)
  replace bg := hp_chg bg hc (by omega)
  replace om0 := og_keep om0 hc (by omega) (by omega)
  replace oh0 := og_keep oh0 hc (by omega) (by omega)
  replace bh := hp_chg bh hc (by omega)
  replace hB0 := below_chg hB0 hc (by omega) (by omega)
  clear hc
  have c0_bs := blk_cell bs 0 _ rfl
  have c1_bs := blk_cell bs 1 _ rfl
  have c0_bg := blk_cell bg 0 _ rfl
  have c1_bg := blk_cell bg 1 _ rfl
  have c0_bh := blk_cell bh 0 _ rfl
  have c1_bh := blk_cell bh 1 _ rfl
  go_wp2_with fail
  clear c0_bs c1_bs c0_bg c1_bg c0_bh c1_bh
  go_ret
  exact ⟨rfl, hB0⟩
end Go.Proofs.Ytlkgmnmnlfaopaa
