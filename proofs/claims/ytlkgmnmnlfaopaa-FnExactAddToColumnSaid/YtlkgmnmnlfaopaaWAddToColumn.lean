import Derived.LoopN
import Derived.BigRegion
import Derived.BigQuiet
import Derived.RegionTactic
import Derived.Test.YtlkgmnmnlfaopaaQ29
import Derived.Test.YtlkgmnmnlfaopaaQw
namespace Go.Proofs.Ytlkgmnmnlfaopaa
open Go.RowKit
set_option maxRecDepth 4000
theorem oss_cell {w : World} {lo hi n cap : Nat} {a : Option Addr} {cs : List (List Int)} (h : OSS w lo hi (.slice a n cap) cs) (k : Nat) (hk : k < cs.length) :
    ∃ g ra rc, a = some ⟨g, 0, none⟩ ∧ w.cell? ⟨g, k, none⟩ = some (.slice ra (cs.getD k []).length rc) ∧
      ∀ j, j < (cs.getD k []).length → ∃ rb, ra = some ⟨rb, 0, none⟩ ∧ lo ≤ rb ∧ rb < hi ∧ w.frozen? ⟨rb, j, none⟩ = false ∧ w.cell? ⟨rb, j, none⟩ = some (.int .i64 ((cs.getD k []).getD j 0)) ∧
        ∀ x, OSS (w.setCell ⟨rb, j, none⟩ (.int .i64 x)) lo hi (.slice a n cap) (cs.set k ((cs.getD k []).set j x)) := by
  obtain ⟨-, -, hrow⟩ := oss_row h
  obtain ⟨g, ra, rc, rfl, c0, ⟨ho, hhi⟩, hput⟩ := hrow k hk
  refine ⟨g, ra, rc, rfl, c0, fun j hj => ?_⟩
  rcases id ho.2 with ⟨hv, h0⟩ | ⟨rb, cap', cur, hv, hg, hh, hc, hm, hs, ht⟩
  · omega
  · simp only [Value.slice.injEq] at hv
    obtain ⟨rfl, -, rfl⟩ := hv
    have hca := ho.cellAt j (by omega)
    have hfr := ho.frozenAt j
    refine ⟨rb, rfl, hg, hhi rb rfl, hfr, ?_, fun x => ?_⟩
    · rw [hca, getD_at _ j hj, List.getElem?_map, List.getElem?_eq_getElem hj]; rfl
    · have hst := (ho.stored j (.int .i64 x)).1
      rw [← List.map_set] at hst
      exact hput (w.setCell ⟨rb, j, none⟩ (.int .i64 x)) ((cs.getD k []).set j x) (by rw [List.length_set]; exact hst) (fun k' hk' => by
        rcases hk' with h | ⟨b, hb', hne⟩
        · cases h
        · simp only [Option.some.injEq, Addr.mk.injEq, and_true] at hb'
          exact heap_setCell_other _ _ _ _ (by rw [hb']; exact hne))
theorem at_good {gr gc : List (List Int)} {j k : Int} (h : atA gr gc j k = true) : gameB (atL gr j k) gc = gB (atL gr j k) := by
  simp only [atA, Bool.and_eq_true] at h
  obtain ⟨⟨h1, h2⟩, h3⟩ := h
  obtain ⟨k1, k2⟩ := gameB_sizes h1
  have e1 : (atL gr j k).length = gc.length := by unfold atL; rw [gridL_len, k2.rows]
  have e2 : ((atL gr j k).getD 0 []).length = (gc.getD 0 []).length := by
    unfold atL
    rw [gridL_at _ _ _ _ (by have := k1.m1; omega), rowL_len, k2.len 0 (by have := k1.m1; omega)]
  have e3 : gB gc = true := by
    simp only [gameB, Bool.and_eq_true] at h1
    exact h1.1.1.2
  simp only [gameB, e1, e2, e3, decide_true, Bool.and_true]
set_option maxHeartbeats 6400000 in
theorem specAddToColumn (gr gc : List (List Int)) (j k : Int) (ar ac : Option Addr) (cr cc : Nat) (w : World) (hr : RdSS w w.heap.size ar gr) (hc : RdSS w w.heap.size ac gc) :
    Calls Try.prog 43 #[.agg #[.slice ar gr.length cr, .slice ac gc.length cc], .int .i64 j, .int .i64 k] w (OutAddToColumn w (if atB gr gc j k then atL gr j k else []) (if atB gr gc j k then gc else []) (atB gr gc j k)) := by
  obtain ⟨w1, hw1⟩ : ∃ w1, w1 = (w.alloc (.cells #[.slice ar gr.length cr, .slice ac gc.length cc] 27)) := ⟨_, rfl⟩
  obtain ⟨w2, hw2⟩ : ∃ w2, w2 = (w1.alloc (.cells zgame 27)) := ⟨_, rfl⟩
  have hb1 : Below w.heap.size w w1 := by rw [hw1]; exact balloc (Below.refl w.heap.size w) _
  have hb2 : Below w1.heap.size w1 w2 := by rw [hw2]; exact balloc (Below.refl w1.heap.size w1) _
  have hz1 : w1.heap.size = w.heap.size + 1 := by rw [hw1]; simp
  have hz2 : w2.heap.size = w.heap.size + 2 := by rw [hw2, World.size_alloc, hz1]
  have g1 : w1.heap[w.heap.size]? = some (.cells #[.slice ar gr.length cr, .slice ac gc.length cc] 27 (0, 0)) := by rw [hw1]; exact heap_alloc_new w _
  have g1 := hp_later g1 hb2
  have g2 : w2.heap[w.heap.size + 1]? = some (.cells zgame 27 (0, 0)) := by rw [hw2, ← hz1]; exact heap_alloc_new w1 _
  have hb := bnext hb1 hb2
  have hle : w.heap.size ≤ w2.heap.size := hb.size
  have hr2 := rdss_chg hr (chg_below hb) (Nat.le_refl _) (.inr rfl)
  have hc2 := rdss_chg hc (chg_below hb) (Nat.le_refl _) (.inr rfl)
  have HG := Lib.hid (gmGood_any gr gc ar ac cr cc w.heap.size w2 hr2 hc2 hle)
  have HW1 := Lib.hid hw1
  have HW2 := Lib.hid hw2
  have HZ2 := Lib.hid hz2
  have c0 := blk_cell g1 0 _ rfl
  have c1 := blk_cell g1 1 _ rfl
  cases eg : gameB gr gc
  · rw [eg] at HG
    have HF : Hid (atB gr gc j k = false) := Lib.hid (by simp only [atB, atA, eg, Bool.false_and])
    rw [HF.out]
    clear hr2 hc2 eg
    clear hw1 hw2 hz1 hz2 hb1 hb2 hr hc
    go_enter Try.func43, Try.ntmps43
    go_wp2_with ((with_reducible refine alloc_blk zgame run_alloc_game rfl rfl ?_); simp only [World.size_alloc, Act.put, List.setIfInBounds_toArray, List.set_cons_zero, List.set_cons_succ])
    rw [← HW1.out, ← HW2.out]
    refine HG.out.mono ?_
    rintro e w3 ⟨rfl, hb3⟩
    have k2 := hp_later g2 hb3
    have d0 := blk_cell (hp_later g1 hb3) 0 _ rfl
    go_wp2_with (first | (with_reducible refine build0_blk zgame run_build0_game rfl rfl ?_) | ((with_reducible refine store_blk blkG rfl _ _ rfl (w.heap.size + 1) (zgame) (zgame) ?_ ?_ k2 (rfl) (rfl) (zgame_one) (w.heap.size) (by omega) ?_); exact rfl; exact rfl; intro w8 hg8 hb8 hk8 hz8))
    exact bodyPost_ret (results_blk blkG rfl _ _ (w.heap.size + 1) _ (.bool false) rfl rfl hg8 rfl) rfl ⟨_, _, rfl, og_nil _ _ _ ((bnext hb hb3).trans hb8).size, (bnext hb hb3).trans hb8⟩
  · rw [eg] at HG
    obtain ⟨k1, k2'⟩ := gameB_sizes eg
    obtain ⟨n, hn⟩ : ∃ n, n = (gr.getD 0 []).length := ⟨_, rfl⟩
    have hAT : ∀ b : Bool, decide (0 ≤ j ∧ j < ((gr.getD 0 []).length : Int)) = b → atA gr gc j k = (b && decide (-20 ≤ k ∧ k ≤ 20)) := fun b hb => by simp only [atA, eg, hb, Bool.true_and]
    rw [← hn] at k1 k2' hAT
    have hm1 := k1.m1
    have hn1 := k1.n1
    have hn3 := k1.n3
    have hm3 := k1.m3
    obtain ⟨-, bR, oR, hxR⟩ := id hr2
    obtain ⟨hae, hbR, ra0, rc0, kR, -⟩ := hxR 0 (by omega)
    subst hae
    rw [Nat.add_zero, ← hn] at kR
    have HKR := Lib.hid (fun w' (hb : Below w2.heap.size w2 w') => (hb.cell (p := ⟨bR, oR, none⟩) (by show bR < _; omega)).trans kR)
    have hrn : 0 < gr.length := hm1
    by_cases h1 : 0 ≤ j ∧ j < (n : Int)
    · obtain ⟨J, rfl⟩ := Int.eq_ofNat_of_zero_le h1.1
      have hJ : J < n := by omega
      have hAT2 : atA gr gc J k = decide (-20 ≤ k ∧ k ≤ 20) := by rw [hAT true (by simp; omega), Bool.true_and]
      by_cases h2 : -20 ≤ k ∧ k ≤ 20
      · have hA : atA gr gc J k = true := by rw [hAT2]; simpa using h2
        have HB : Hid (atB gr gc J k = gB (atL gr J k)) := Lib.hid (by rw [atB, hA, Bool.true_and])
        have HGD := Lib.hid (at_good hA)
        have HO1 := Lib.hid (fun w' (hb : Below w2.heap.size w2 w') => gmOwn_any gr _ _ k1 (some ⟨bR, oR, none⟩) cr w.heap.size w' (rdss_chg hr2 (chg_below hb) hle (.inr rfl)) (by have := hb.size; omega))
        have HO2 := Lib.hid (fun w' (hb : Below w2.heap.size w2 w') => gmOwn_any gc _ _ k2' ac cc w.heap.size w' (rdss_chg hc2 (chg_below hb) hle (.inr rfl)) (by have := hb.size; omega))
        have HSELF := Lib.hid (grid_self k1)
        obtain ⟨X, hX⟩ : ∃ X : Nat → Nat → Int, X = (fun i j => (gr.getD i []).getD j 0) := ⟨_, rfl⟩
        have HBD : Hid (∀ i, i < gr.length → -9 ≤ X i J ∧ X i J ≤ 9) := Lib.hid (fun i hi => by rw [hX]; exact k1.bd i hi J hJ)
        rw [← hX] at HSELF
        have HAL : Hid (∀ f : Nat → Nat → Int, (∀ i c, i < gr.length → c < n → f i c = if c = J then X i c + k else X i c) → gridL gr.length n f = atL gr J k) := Lib.hid (fun f h => by
          unfold atL
          rw [← hn]
          refine grid_congr _ _ _ _ (fun i c hi hc => ?_)
          rw [h i c hi hc, hX]
          unfold addV
          by_cases e : c = J
          · rw [if_pos e, if_pos (by omega)]
          · rw [if_neg e, if_neg (by omega)])
        obtain ⟨hk1, hk2⟩ := h2
        have hJi : (J : Int) ≤ (n : Int) - 1 := by omega
        have hJj : (J : Int) < (n : Int) := by omega
        rw [HB.out]
        clear hr2 hc2 eg k1 k2' hn hAT hAT2 h1 hX hxR kR
        clear hw1 hw2 hz1 hz2 hb1 hb2 hr hc
        generalize atL gr J k = R at *
        cases hg : gB R
        · rw [hg] at HGD
          clear hg
          go_enter Try.func43, Try.ntmps43
          go_wp2_with ((with_reducible refine alloc_blk zgame run_alloc_game rfl rfl ?_); simp only [World.size_alloc, Act.put, List.setIfInBounds_toArray, List.set_cons_zero, List.set_cons_succ])
          rw [← HW1.out, ← HW2.out]
          refine HG.out.mono ?_
          rintro e w3 ⟨rfl, hb3⟩
          have k2 := hp_later g2 hb3
          have d0 := blk_cell (hp_later g1 hb3) 0 _ rfl
          have dR := HKR.out _ hb3
          have hz3 := hb3.size
          go_wp2_with fail
          refine (l1In_yes J 0 _ ⟨by omega, by omega⟩ _).mono ?_
          rintro e w' ⟨rfl, rfl⟩
          go_wp2_with fail
          refine (l1In_yes k _ _ ⟨by omega, by omega⟩ _).mono ?_
          rintro e w' ⟨rfl, rfl⟩
          go_wp2_with fail
          refine (fun (hX : ∀ (g : Nat) (w7 : World) (a1 : Option Addr) (c1 : Nat) (a2 : Option Addr) (c2 : Nat) (s1 s2 s3 : Nat), w7.heap[g]? = some (.cells #[.slice a1 gr.length c1, .slice a2 gc.length c2] 27 (0, 0)) → (g < s1 ∨ s2 ≤ g) → w3.heap.size ≤ s1 → s1 ≤ s2 → s2 ≤ s3 → s3 ≤ w7.heap.size → OSS w7 s1 s2 (.slice a1 gr.length c1) gr → OSS w7 s2 s3 (.slice a2 gc.length c2) gc → Below w3.heap.size w3 w7 → (?XB : Nat → World → Option Addr → Nat → Option Addr → Nat → Prop) g w7 a1 c1 a2 c2) => ?regB) ?mainB
          case regB =>
            have k3 := hp_later g1 hb3
            have hbd : Below w3.heap.size w3 w3.drew := (Same.refl w3).drew _
            refine wp_region_mt (fun w' => w'.heap[w.heap.size]? = some (.cells #[.slice (some ⟨bR, oR, none⟩) gr.length cr, .slice ac gc.length cc] 27 (0, 0))) (.take 0 (.take 1 (.take 3 (.take 4 (.fork 2 (.fork 5 (.take 6 (.sole 7 (.sole 8 .done))) 7 (.sole 5 (.take 6 (.sole 8 .done)))) 7 (.sole 2 (.sole 5 (.take 6 (.sole 8 .done))))))))) (by kernel_rfl) (by kernel_rfl) (fun _ _ d _ _ h => by cases d <;> exact h) (by kernel_rfl) rfl k3 ?_
            refine mt_take 0 _ ?_ rfl rfl (some 30) rfl (fun w' hw' => ?hv0) ?_
            case hv0 =>
              go_simp
              with_reducible rfl
            simp only [Act.put, List.setIfInBounds_toArray, List.set_cons_zero, List.set_cons_succ]
            refine mt_take 1 _ ?_ rfl rfl (some 31) rfl (fun w' hw' => ?hv1) ?_
            case hv1 =>
              have s0 := blk_cell (w := w') hw' 0 _ rfl
              go_simp
              with_reducible rfl
            simp only [Act.put, List.setIfInBounds_toArray, List.set_cons_zero, List.set_cons_succ]
            refine mt_take 3 _ ?_ rfl rfl (some 33) rfl (fun w' hw' => ?hv3) ?_
            case hv3 =>
              go_simp
              with_reducible rfl
            simp only [Act.put, List.setIfInBounds_toArray, List.set_cons_zero, List.set_cons_succ]
            refine mt_take 4 _ ?_ rfl rfl (some 34) rfl (fun w' hw' => ?hv4) ?_
            case hv4 =>
              have s0 := blk_cell (w := w') hw' 1 _ rfl
              go_simp
              with_reducible rfl
            simp only [Act.put, List.setIfInBounds_toArray, List.set_cons_zero, List.set_cons_succ]
            have hw0 := HZ2.out
            have hbr := hbd.size
            refine mt_fork ?_ ?_
            · skip
              refine mt_call 2 _ rfl rfl 78 #[.slice (some ⟨bR, oR, none⟩) gr.length cr] (some 32) rfl ?hr ?_
              case hr => go_simp
              refine (HO1.out _ (hb3.trans (hbd.mono hz3))).mono ?_
              rintro e x1 ⟨v1, rfl, o1, hqx1⟩
              have hQx1 := hbd.trans (hqx1.mono hbd.size)
              have o1 := oss_of o1
              have z1 := hqx1.size
              obtain ⟨a1, c1, rfl, -⟩ := oss_shape o1
              refine ⟨_, rfl, hp_later k3 hQx1, ?_⟩
              simp only [Act.put, List.setIfInBounds_toArray, List.set_cons_zero, List.set_cons_succ]
              refine mt_fork ?_ ?_
              · skip
                refine mt_call 5 _ rfl rfl 78 #[.slice ac gc.length cc] (some 35) rfl ?hr ?_
                case hr => go_simp
                refine (HO2.out _ (hb3.trans (hQx1.mono hz3))).mono ?_
                rintro e x2 ⟨v2, rfl, o2, hqx2⟩
                have hQx2 := hQx1.trans (hqx2.mono hQx1.size)
                have o2 := oss_of o2
                have z2 := hqx2.size
                obtain ⟨a2, c2, rfl, -⟩ := oss_shape o2
                refine ⟨_, rfl, hp_later k3 hQx2, ?_⟩
                simp only [Act.put, List.setIfInBounds_toArray, List.set_cons_zero, List.set_cons_succ]
                have o1 := oss_keep o1 (chg_below hqx2) (Nat.le_refl _) (.inl (Nat.zero_le _))
                refine mt_take 6 _ (.agg #[.slice a1 gr.length c1, .slice a2 gc.length c2]) rfl rfl (some 36) rfl (fun w' hw' => exec_build2 27 0 1 _ _ rfl (.slice a1 gr.length c1) (.slice a2 gc.length c2) rfl rfl _ (run_build_game _ _ _ _ _ _ w')) ?_
                simp only [Act.put, List.setIfInBounds_toArray, List.set_cons_zero, List.set_cons_succ]
                have hgx3 := heap_alloc_new x2 (.cells zgame 27)
                have hqx3 : Below x2.heap.size x2 (x2.alloc (.cells zgame 27)) := balloc (Below.refl _ _) _
                have hzqx3 : (x2.alloc (.cells zgame 27)).heap.size = x2.heap.size + 1 := by simp
                have hQx3 := hQx2.trans (hqx3.mono hQx2.size)
                refine mt_alloc zgame run_alloc_game 7 _ rfl rfl rfl (some 8) rfl ⟨hp_later k3 hQx3, ?_⟩
                generalize x2.alloc (.cells zgame 27) = x3 at hgx3 hqx3 hzqx3 hQx3 ⊢
                obtain ⟨g, hgeq⟩ : ∃ g, g = x2.heap.size := ⟨_, rfl⟩
                have hgi : g ≤ x2.heap.size ∧ x2.heap.size ≤ g := by omega
                rw [← hgeq] at hgx3 ⊢
                clear hgeq
                simp only [Act.put, List.setIfInBounds_toArray, List.set_cons_zero, List.set_cons_succ]
                have o1 := oss_keep o1 (chg_below hqx3) (by omega) (.inl (Nat.zero_le _))
                have o2 := oss_keep o2 (chg_below hqx3) (Nat.le_refl _) (.inl (Nat.zero_le _))
                refine mt_store_blk blkG 8 _ rfl rfl _ _ rfl none rfl g #[.slice a1 gr.length c1, .slice a2 gc.length c2] zgame rfl rfl hgx3 rfl rfl (one2 _ _ _ _ _ _) w3.heap.size (by omega) ?_
                intro w8 hg8 hb8 hk8 hz8
                refine ⟨(hk8 _ (by omega)).trans (hp_later k3 hQx3), ?_⟩
                simp only [Act.put]
                refine mt_done ?_
                have hc8 : Chg g (g + 1) x3 w8 := ⟨hb8.os, hb8.tape, hb8.output, hb8.size, fun k _ hx => hk8 k (by omega)⟩
                exact hX g w8 a1 c1 a2 c2 w3.drew.heap.size x1.heap.size x2.heap.size hg8 (by omega) (by omega) (by omega) (by omega) (by omega) (oss_keep o1 hc8 (by omega) (by omega)) (oss_keep o2 hc8 (by omega) (by omega)) (hQx3.trans hb8)
              · skip
                have hgx4 := heap_alloc_new x1 (.cells zgame 27)
                have hqx4 : Below x1.heap.size x1 (x1.alloc (.cells zgame 27)) := balloc (Below.refl _ _) _
                have hzqx4 : (x1.alloc (.cells zgame 27)).heap.size = x1.heap.size + 1 := by simp
                have hQx4 := hQx1.trans (hqx4.mono hQx1.size)
                refine mt_alloc zgame run_alloc_game 7 _ rfl rfl rfl (some 8) rfl ⟨hp_later k3 hQx4, ?_⟩
                generalize x1.alloc (.cells zgame 27) = x4 at hgx4 hqx4 hzqx4 hQx4 ⊢
                obtain ⟨g, hgeq⟩ : ∃ g, g = x1.heap.size := ⟨_, rfl⟩
                have hgi : g ≤ x1.heap.size ∧ x1.heap.size ≤ g := by omega
                rw [← hgeq] at hgx4 ⊢
                clear hgeq
                simp only [Act.put, List.setIfInBounds_toArray, List.set_cons_zero, List.set_cons_succ]
                have o1 := oss_keep o1 (chg_below hqx4) (Nat.le_refl _) (.inl (Nat.zero_le _))
                refine mt_call 5 _ rfl rfl 78 #[.slice ac gc.length cc] (some 35) rfl ?hr ?_
                case hr => go_simp
                refine (HO2.out _ (hb3.trans (hQx4.mono hz3))).mono ?_
                rintro e x5 ⟨v2, rfl, o2, hqx5⟩
                have hQx5 := hQx4.trans (hqx5.mono hQx4.size)
                have o2 := oss_of o2
                have z2 := hqx5.size
                obtain ⟨a2, c2, rfl, -⟩ := oss_shape o2
                refine ⟨_, rfl, hp_later k3 hQx5, ?_⟩
                simp only [Act.put, List.setIfInBounds_toArray, List.set_cons_zero, List.set_cons_succ]
                have o1 := oss_keep o1 (chg_below hqx5) (by omega) (.inl (Nat.zero_le _))
                have HGB := hp_later hgx4 hqx5
                refine mt_take 6 _ (.agg #[.slice a1 gr.length c1, .slice a2 gc.length c2]) rfl rfl (some 36) rfl (fun w' hw' => exec_build2 27 0 1 _ _ rfl (.slice a1 gr.length c1) (.slice a2 gc.length c2) rfl rfl _ (run_build_game _ _ _ _ _ _ w')) ?_
                simp only [Act.put, List.setIfInBounds_toArray, List.set_cons_zero, List.set_cons_succ]
                refine mt_store_blk blkG 8 _ rfl rfl _ _ rfl none rfl g #[.slice a1 gr.length c1, .slice a2 gc.length c2] zgame rfl rfl HGB rfl rfl (one2 _ _ _ _ _ _) w3.heap.size (by omega) ?_
                intro w8 hg8 hb8 hk8 hz8
                refine ⟨(hk8 _ (by omega)).trans (hp_later k3 hQx5), ?_⟩
                simp only [Act.put]
                refine mt_done ?_
                have hc8 : Chg g (g + 1) x5 w8 := ⟨hb8.os, hb8.tape, hb8.output, hb8.size, fun k _ hx => hk8 k (by omega)⟩
                exact hX g w8 a1 c1 a2 c2 w3.drew.heap.size x1.heap.size x5.heap.size hg8 (by omega) (by omega) (by omega) (by omega) (by omega) (oss_keep o1 hc8 (by omega) (by omega)) (oss_low (oss_keep o2 hc8 (by omega) (by omega)) (by omega)) (hQx5.trans hb8)
            · skip
              have hgx6 := heap_alloc_new w3.drew (.cells zgame 27)
              have hqx6 : Below w3.drew.heap.size w3.drew (w3.drew.alloc (.cells zgame 27)) := balloc (Below.refl _ _) _
              have hzqx6 : (w3.drew.alloc (.cells zgame 27)).heap.size = w3.drew.heap.size + 1 := by simp
              have hQx6 := hbd.trans (hqx6.mono hbd.size)
              refine mt_alloc zgame run_alloc_game 7 _ rfl rfl rfl (some 8) rfl ⟨hp_later k3 hQx6, ?_⟩
              generalize w3.drew.alloc (.cells zgame 27) = x6 at hgx6 hqx6 hzqx6 hQx6 ⊢
              obtain ⟨g, hgeq⟩ : ∃ g, g = w3.drew.heap.size := ⟨_, rfl⟩
              have hgi : g ≤ w3.drew.heap.size ∧ w3.drew.heap.size ≤ g := by omega
              rw [← hgeq] at hgx6 ⊢
              clear hgeq
              simp only [Act.put, List.setIfInBounds_toArray, List.set_cons_zero, List.set_cons_succ]
              refine mt_call 2 _ rfl rfl 78 #[.slice (some ⟨bR, oR, none⟩) gr.length cr] (some 32) rfl ?hr ?_
              case hr => go_simp
              refine (HO1.out _ (hb3.trans (hQx6.mono hz3))).mono ?_
              rintro e x7 ⟨v1, rfl, o1, hqx7⟩
              have hQx7 := hQx6.trans (hqx7.mono hQx6.size)
              have o1 := oss_of o1
              have z1 := hqx7.size
              obtain ⟨a1, c1, rfl, -⟩ := oss_shape o1
              refine ⟨_, rfl, hp_later k3 hQx7, ?_⟩
              simp only [Act.put, List.setIfInBounds_toArray, List.set_cons_zero, List.set_cons_succ]
              have HGA := hp_later hgx6 hqx7
              refine mt_call 5 _ rfl rfl 78 #[.slice ac gc.length cc] (some 35) rfl ?hr ?_
              case hr => go_simp
              refine (HO2.out _ (hb3.trans (hQx7.mono hz3))).mono ?_
              rintro e x8 ⟨v2, rfl, o2, hqx8⟩
              have hQx8 := hQx7.trans (hqx8.mono hQx7.size)
              have o2 := oss_of o2
              have z2 := hqx8.size
              obtain ⟨a2, c2, rfl, -⟩ := oss_shape o2
              refine ⟨_, rfl, hp_later k3 hQx8, ?_⟩
              simp only [Act.put, List.setIfInBounds_toArray, List.set_cons_zero, List.set_cons_succ]
              have o1 := oss_keep o1 (chg_below hqx8) (Nat.le_refl _) (.inl (Nat.zero_le _))
              have HGB := hp_later HGA hqx8
              refine mt_take 6 _ (.agg #[.slice a1 gr.length c1, .slice a2 gc.length c2]) rfl rfl (some 36) rfl (fun w' hw' => exec_build2 27 0 1 _ _ rfl (.slice a1 gr.length c1) (.slice a2 gc.length c2) rfl rfl _ (run_build_game _ _ _ _ _ _ w')) ?_
              simp only [Act.put, List.setIfInBounds_toArray, List.set_cons_zero, List.set_cons_succ]
              refine mt_store_blk blkG 8 _ rfl rfl _ _ rfl none rfl g #[.slice a1 gr.length c1, .slice a2 gc.length c2] zgame rfl rfl HGB rfl rfl (one2 _ _ _ _ _ _) w3.heap.size (by omega) ?_
              intro w8 hg8 hb8 hk8 hz8
              refine ⟨(hk8 _ (by omega)).trans (hp_later k3 hQx8), ?_⟩
              simp only [Act.put]
              refine mt_done ?_
              have hc8 : Chg g (g + 1) x8 w8 := ⟨hb8.os, hb8.tape, hb8.output, hb8.size, fun k _ hx => hk8 k (by omega)⟩
              exact hX g w8 a1 c1 a2 c2 x6.heap.size x7.heap.size x8.heap.size hg8 (by omega) (by omega) (by omega) (by omega) (by omega) (oss_keep o1 hc8 (by omega) (by omega)) (oss_keep o2 hc8 (by omega) (by omega)) (hQx8.trans hb8)
          case mainB =>
            intro g w7 a1 c1 a2 c2 s1 s2 s3 hg hgs hs1 hs2 hs3 hs4 o1 o2 hb7
            have hb7' := bnext hb3 hb7
            replace o1 : OSS w7 s1 s2 (.slice a1 gr.length c1) (gridL gr.length n X) := by rw [HSELF.out]; exact o1
            have q0 := blk_cell hg 0 _ rfl
            clear dR d0 k2
            go_wp2_with fail
            go_loopw [40] (fun v40 wr => ∃ (q : Nat) (f : Nat → Nat → Int), q ≤ gr.length ∧ v40 = .int .i64 q ∧ OSS wr s1 s2 (.slice a1 gr.length c1) (gridL gr.length n f) ∧ (∀ i c, f i c = if i < q ∧ c = J then X i c + k else X i c) ∧ Chg s1 s2 w7 wr) (fun v40 _ => gr.length - (intOf v40).toNat)
            case atStart => exact ⟨0, X, Nat.zero_le _, rfl, o1, fun i c => by simp, chg_refl _ _ _⟩
            case round =>
              clear o1 q0
              obtain ⟨q, f, hq, rfl, o1, hf, hch⟩ := hrel
              obtain ⟨wq, rfl⟩ : ∃ wq : World, wq = wr := ⟨_, rfl⟩
              have hgq := hp_chg hg hch hgs
              have q0 := blk_cell hgq 0 _ rfl
              by_cases hlt : q < gr.length
              · have hqi : (q : Int) < (gr.length : Int) := by omega
                have e1 : (gridL gr.length n f).getD q [] = rowL n (f q) := gridL_at _ _ _ _ hlt
                obtain ⟨ga, ra, rc, hge, kc, hrow⟩ := oss_cell o1 q (by rw [gridL_len]; exact hlt)
                rw [e1, rowL_len] at kc
                obtain ⟨rb, hra, hlo, hhi, hfr, hv, hput⟩ := hrow J (by rw [e1, rowL_len]; exact hJ)
                subst hge
                subst hra
                rw [e1, rowL_at _ _ _ hJ, hf q J, if_neg (by omega)] at hv
                have hxb := HBD.out q hlt
                have HPUT : Hid (OSS (wq.setCell ⟨rb, J, none⟩ (.int .i64 (X q J + k))) s1 s2 (.slice (some ⟨ga, 0, none⟩) gr.length c1) (gridL gr.length n (updF f q J (X q J + k)))) := Lib.hid (by
                  rw [← grid_put gr.length n f q J _ hlt hJ]; exact hput _)
                have HFF : Hid (∀ i c, updF f q J (X q J + k) i c = if i < q + 1 ∧ c = J then X i c + k else X i c) := Lib.hid (fun i c => by
                  unfold updF
                  by_cases h : i = q ∧ c = J
                  · obtain ⟨rfl, rfl⟩ := h
                    rw [if_pos ⟨rfl, rfl⟩, if_pos ⟨by omega, rfl⟩]
                  · rw [if_neg h, hf i c]
                    by_cases h2 : i < q ∧ c = J
                    · rw [if_pos h2, if_pos (by omega)]
                    · rw [if_neg h2, if_neg (by omega)])
                have HCH := Lib.hid (hch.trans (chg_wide (chg_put wq rb J (.int .i64 (X q J + k))) hlo (by omega)))
                clear o1 hf hch hrow hput e1
                generalize X q J = x at *
                have e1 : wrap64 (x + k) = x + k := IntWalk.wrap64_in _ ⟨by omega, by omega⟩
                have e3 : IntKind.i64.wrap (x + k) = x + k := IntWalk.i64_in _ ⟨by omega, by omega⟩
                go_wp2_with fail
                go_roundw
                case rel => exact ⟨q + 1, _, by omega, by go_num, HPUT.out, HFF.out, HCH.out⟩
                case measure => simp [intOf]; omega
              · have hqn : ¬ (q : Int) < (gr.length : Int) := by omega
                have he := HAL.out f (fun i c hi hc => by rw [hf i c]; by_cases e : c = J; (· rw [if_pos ⟨by omega, e⟩, if_pos e]); (· rw [if_neg (fun h => e h.2), if_neg e]))
                have hlen : gr.length = R.length := by rw [← he, gridL_len]
                rw [he] at o1
                have o2' := oss_keep o2 hch hs4 (.inl (Nat.le_refl _))
                have hzq := hch.size
                have q1 := blk_cell hgq 1 _ rfl
                have HGG := Lib.hid (gmGood_any R gc a1 a2 c1 c2 wq.heap.size wq (rdss_mono (oss_rd o1).2 (by omega)) (rdss_mono (oss_rd o2').2 (by omega)) (Nat.le_refl _))
                rw [HGD.out, ← hlen] at HGG
                have hB7 : Below w2.heap.size w2 wq := below_chg hb7' hch (by omega) (.inl (by omega))
                have k6 := hp_later g2 hB7
                have HL := Lib.hid hlen
                have HCHQ := Lib.hid hch
                clear he hf hch hlen hlt hq
                go_wp2_with fail
                refine HGG.out.mono ?_
                rintro e w9 ⟨rfl, hb9⟩
                have hB9 := bnext hB7 hb9
                have k9 := hp_later k6 hb9
                go_wp2_with (first | (with_reducible refine build0_blk zgame run_build0_game rfl rfl ?_) | ((with_reducible refine store_blk blkG rfl _ _ rfl (w.heap.size + 1) (zgame) (zgame) ?_ ?_ k9 (rfl) (rfl) (zgame_one) (w.heap.size) (by omega) ?_); exact rfl; exact rfl; intro w8 hg8 hb8 hk8 hz8))
                exact bodyPost_ret (results_blk blkG rfl _ _ (w.heap.size + 1) _ (.bool false) rfl rfl hg8 rfl) rfl ⟨_, _, rfl, og_nil _ _ _ ((bnext hb hB9).trans hb8).size, (bnext hb hB9).trans hb8⟩
        · rw [hg] at HGD
          clear hg
          rw [if_pos rfl, if_pos rfl]
          go_enter Try.func43, Try.ntmps43
          go_wp2_with ((with_reducible refine alloc_blk zgame run_alloc_game rfl rfl ?_); simp only [World.size_alloc, Act.put, List.setIfInBounds_toArray, List.set_cons_zero, List.set_cons_succ])
          rw [← HW1.out, ← HW2.out]
          refine HG.out.mono ?_
          rintro e w3 ⟨rfl, hb3⟩
          have k2 := hp_later g2 hb3
          have d0 := blk_cell (hp_later g1 hb3) 0 _ rfl
          have dR := HKR.out _ hb3
          have hz3 := hb3.size
          go_wp2_with fail
          refine (l1In_yes J 0 _ ⟨by omega, by omega⟩ _).mono ?_
          rintro e w' ⟨rfl, rfl⟩
          go_wp2_with fail
          refine (l1In_yes k _ _ ⟨by omega, by omega⟩ _).mono ?_
          rintro e w' ⟨rfl, rfl⟩
          go_wp2_with fail
          refine (fun (hX : ∀ (g : Nat) (w7 : World) (a1 : Option Addr) (c1 : Nat) (a2 : Option Addr) (c2 : Nat) (s1 s2 s3 : Nat), w7.heap[g]? = some (.cells #[.slice a1 gr.length c1, .slice a2 gc.length c2] 27 (0, 0)) → (g < s1 ∨ s2 ≤ g) → w3.heap.size ≤ s1 → s1 ≤ s2 → s2 ≤ s3 → s3 ≤ w7.heap.size → OSS w7 s1 s2 (.slice a1 gr.length c1) gr → OSS w7 s2 s3 (.slice a2 gc.length c2) gc → Below w3.heap.size w3 w7 → (?XG : Nat → World → Option Addr → Nat → Option Addr → Nat → Prop) g w7 a1 c1 a2 c2) => ?regG) ?mainG
          case regG =>
            have k3 := hp_later g1 hb3
            have hbd : Below w3.heap.size w3 w3.drew := (Same.refl w3).drew _
            refine wp_region_mt (fun w' => w'.heap[w.heap.size]? = some (.cells #[.slice (some ⟨bR, oR, none⟩) gr.length cr, .slice ac gc.length cc] 27 (0, 0))) (.take 0 (.take 1 (.take 3 (.take 4 (.fork 2 (.fork 5 (.take 6 (.sole 7 (.sole 8 .done))) 7 (.sole 5 (.take 6 (.sole 8 .done)))) 7 (.sole 2 (.sole 5 (.take 6 (.sole 8 .done))))))))) (by kernel_rfl) (by kernel_rfl) (fun _ _ d _ _ h => by cases d <;> exact h) (by kernel_rfl) rfl k3 ?_
            refine mt_take 0 _ ?_ rfl rfl (some 30) rfl (fun w' hw' => ?hv0) ?_
            case hv0 =>
              go_simp
              with_reducible rfl
            simp only [Act.put, List.setIfInBounds_toArray, List.set_cons_zero, List.set_cons_succ]
            refine mt_take 1 _ ?_ rfl rfl (some 31) rfl (fun w' hw' => ?hv1) ?_
            case hv1 =>
              have s0 := blk_cell (w := w') hw' 0 _ rfl
              go_simp
              with_reducible rfl
            simp only [Act.put, List.setIfInBounds_toArray, List.set_cons_zero, List.set_cons_succ]
            refine mt_take 3 _ ?_ rfl rfl (some 33) rfl (fun w' hw' => ?hv3) ?_
            case hv3 =>
              go_simp
              with_reducible rfl
            simp only [Act.put, List.setIfInBounds_toArray, List.set_cons_zero, List.set_cons_succ]
            refine mt_take 4 _ ?_ rfl rfl (some 34) rfl (fun w' hw' => ?hv4) ?_
            case hv4 =>
              have s0 := blk_cell (w := w') hw' 1 _ rfl
              go_simp
              with_reducible rfl
            simp only [Act.put, List.setIfInBounds_toArray, List.set_cons_zero, List.set_cons_succ]
            have hw0 := HZ2.out
            have hbr := hbd.size
            refine mt_fork ?_ ?_
            · skip
              refine mt_call 2 _ rfl rfl 78 #[.slice (some ⟨bR, oR, none⟩) gr.length cr] (some 32) rfl ?hr ?_
              case hr => go_simp
              refine (HO1.out _ (hb3.trans (hbd.mono hz3))).mono ?_
              rintro e x1 ⟨v1, rfl, o1, hqx1⟩
              have hQx1 := hbd.trans (hqx1.mono hbd.size)
              have o1 := oss_of o1
              have z1 := hqx1.size
              obtain ⟨a1, c1, rfl, -⟩ := oss_shape o1
              refine ⟨_, rfl, hp_later k3 hQx1, ?_⟩
              simp only [Act.put, List.setIfInBounds_toArray, List.set_cons_zero, List.set_cons_succ]
              refine mt_fork ?_ ?_
              · skip
                refine mt_call 5 _ rfl rfl 78 #[.slice ac gc.length cc] (some 35) rfl ?hr ?_
                case hr => go_simp
                refine (HO2.out _ (hb3.trans (hQx1.mono hz3))).mono ?_
                rintro e x2 ⟨v2, rfl, o2, hqx2⟩
                have hQx2 := hQx1.trans (hqx2.mono hQx1.size)
                have o2 := oss_of o2
                have z2 := hqx2.size
                obtain ⟨a2, c2, rfl, -⟩ := oss_shape o2
                refine ⟨_, rfl, hp_later k3 hQx2, ?_⟩
                simp only [Act.put, List.setIfInBounds_toArray, List.set_cons_zero, List.set_cons_succ]
                have o1 := oss_keep o1 (chg_below hqx2) (Nat.le_refl _) (.inl (Nat.zero_le _))
                refine mt_take 6 _ (.agg #[.slice a1 gr.length c1, .slice a2 gc.length c2]) rfl rfl (some 36) rfl (fun w' hw' => exec_build2 27 0 1 _ _ rfl (.slice a1 gr.length c1) (.slice a2 gc.length c2) rfl rfl _ (run_build_game _ _ _ _ _ _ w')) ?_
                simp only [Act.put, List.setIfInBounds_toArray, List.set_cons_zero, List.set_cons_succ]
                have hgx3 := heap_alloc_new x2 (.cells zgame 27)
                have hqx3 : Below x2.heap.size x2 (x2.alloc (.cells zgame 27)) := balloc (Below.refl _ _) _
                have hzqx3 : (x2.alloc (.cells zgame 27)).heap.size = x2.heap.size + 1 := by simp
                have hQx3 := hQx2.trans (hqx3.mono hQx2.size)
                refine mt_alloc zgame run_alloc_game 7 _ rfl rfl rfl (some 8) rfl ⟨hp_later k3 hQx3, ?_⟩
                generalize x2.alloc (.cells zgame 27) = x3 at hgx3 hqx3 hzqx3 hQx3 ⊢
                obtain ⟨g, hgeq⟩ : ∃ g, g = x2.heap.size := ⟨_, rfl⟩
                have hgi : g ≤ x2.heap.size ∧ x2.heap.size ≤ g := by omega
                rw [← hgeq] at hgx3 ⊢
                clear hgeq
                simp only [Act.put, List.setIfInBounds_toArray, List.set_cons_zero, List.set_cons_succ]
                have o1 := oss_keep o1 (chg_below hqx3) (by omega) (.inl (Nat.zero_le _))
                have o2 := oss_keep o2 (chg_below hqx3) (Nat.le_refl _) (.inl (Nat.zero_le _))
                refine mt_store_blk blkG 8 _ rfl rfl _ _ rfl none rfl g #[.slice a1 gr.length c1, .slice a2 gc.length c2] zgame rfl rfl hgx3 rfl rfl (one2 _ _ _ _ _ _) w3.heap.size (by omega) ?_
                intro w8 hg8 hb8 hk8 hz8
                refine ⟨(hk8 _ (by omega)).trans (hp_later k3 hQx3), ?_⟩
                simp only [Act.put]
                refine mt_done ?_
                have hc8 : Chg g (g + 1) x3 w8 := ⟨hb8.os, hb8.tape, hb8.output, hb8.size, fun k _ hx => hk8 k (by omega)⟩
                exact hX g w8 a1 c1 a2 c2 w3.drew.heap.size x1.heap.size x2.heap.size hg8 (by omega) (by omega) (by omega) (by omega) (by omega) (oss_keep o1 hc8 (by omega) (by omega)) (oss_keep o2 hc8 (by omega) (by omega)) (hQx3.trans hb8)
              · skip
                have hgx4 := heap_alloc_new x1 (.cells zgame 27)
                have hqx4 : Below x1.heap.size x1 (x1.alloc (.cells zgame 27)) := balloc (Below.refl _ _) _
                have hzqx4 : (x1.alloc (.cells zgame 27)).heap.size = x1.heap.size + 1 := by simp
                have hQx4 := hQx1.trans (hqx4.mono hQx1.size)
                refine mt_alloc zgame run_alloc_game 7 _ rfl rfl rfl (some 8) rfl ⟨hp_later k3 hQx4, ?_⟩
                generalize x1.alloc (.cells zgame 27) = x4 at hgx4 hqx4 hzqx4 hQx4 ⊢
                obtain ⟨g, hgeq⟩ : ∃ g, g = x1.heap.size := ⟨_, rfl⟩
                have hgi : g ≤ x1.heap.size ∧ x1.heap.size ≤ g := by omega
                rw [← hgeq] at hgx4 ⊢
                clear hgeq
                simp only [Act.put, List.setIfInBounds_toArray, List.set_cons_zero, List.set_cons_succ]
                have o1 := oss_keep o1 (chg_below hqx4) (Nat.le_refl _) (.inl (Nat.zero_le _))
                refine mt_call 5 _ rfl rfl 78 #[.slice ac gc.length cc] (some 35) rfl ?hr ?_
                case hr => go_simp
                refine (HO2.out _ (hb3.trans (hQx4.mono hz3))).mono ?_
                rintro e x5 ⟨v2, rfl, o2, hqx5⟩
                have hQx5 := hQx4.trans (hqx5.mono hQx4.size)
                have o2 := oss_of o2
                have z2 := hqx5.size
                obtain ⟨a2, c2, rfl, -⟩ := oss_shape o2
                refine ⟨_, rfl, hp_later k3 hQx5, ?_⟩
                simp only [Act.put, List.setIfInBounds_toArray, List.set_cons_zero, List.set_cons_succ]
                have o1 := oss_keep o1 (chg_below hqx5) (by omega) (.inl (Nat.zero_le _))
                have HGB := hp_later hgx4 hqx5
                refine mt_take 6 _ (.agg #[.slice a1 gr.length c1, .slice a2 gc.length c2]) rfl rfl (some 36) rfl (fun w' hw' => exec_build2 27 0 1 _ _ rfl (.slice a1 gr.length c1) (.slice a2 gc.length c2) rfl rfl _ (run_build_game _ _ _ _ _ _ w')) ?_
                simp only [Act.put, List.setIfInBounds_toArray, List.set_cons_zero, List.set_cons_succ]
                refine mt_store_blk blkG 8 _ rfl rfl _ _ rfl none rfl g #[.slice a1 gr.length c1, .slice a2 gc.length c2] zgame rfl rfl HGB rfl rfl (one2 _ _ _ _ _ _) w3.heap.size (by omega) ?_
                intro w8 hg8 hb8 hk8 hz8
                refine ⟨(hk8 _ (by omega)).trans (hp_later k3 hQx5), ?_⟩
                simp only [Act.put]
                refine mt_done ?_
                have hc8 : Chg g (g + 1) x5 w8 := ⟨hb8.os, hb8.tape, hb8.output, hb8.size, fun k _ hx => hk8 k (by omega)⟩
                exact hX g w8 a1 c1 a2 c2 w3.drew.heap.size x1.heap.size x5.heap.size hg8 (by omega) (by omega) (by omega) (by omega) (by omega) (oss_keep o1 hc8 (by omega) (by omega)) (oss_low (oss_keep o2 hc8 (by omega) (by omega)) (by omega)) (hQx5.trans hb8)
            · skip
              have hgx6 := heap_alloc_new w3.drew (.cells zgame 27)
              have hqx6 : Below w3.drew.heap.size w3.drew (w3.drew.alloc (.cells zgame 27)) := balloc (Below.refl _ _) _
              have hzqx6 : (w3.drew.alloc (.cells zgame 27)).heap.size = w3.drew.heap.size + 1 := by simp
              have hQx6 := hbd.trans (hqx6.mono hbd.size)
              refine mt_alloc zgame run_alloc_game 7 _ rfl rfl rfl (some 8) rfl ⟨hp_later k3 hQx6, ?_⟩
              generalize w3.drew.alloc (.cells zgame 27) = x6 at hgx6 hqx6 hzqx6 hQx6 ⊢
              obtain ⟨g, hgeq⟩ : ∃ g, g = w3.drew.heap.size := ⟨_, rfl⟩
              have hgi : g ≤ w3.drew.heap.size ∧ w3.drew.heap.size ≤ g := by omega
              rw [← hgeq] at hgx6 ⊢
              clear hgeq
              simp only [Act.put, List.setIfInBounds_toArray, List.set_cons_zero, List.set_cons_succ]
              refine mt_call 2 _ rfl rfl 78 #[.slice (some ⟨bR, oR, none⟩) gr.length cr] (some 32) rfl ?hr ?_
              case hr => go_simp
              refine (HO1.out _ (hb3.trans (hQx6.mono hz3))).mono ?_
              rintro e x7 ⟨v1, rfl, o1, hqx7⟩
              have hQx7 := hQx6.trans (hqx7.mono hQx6.size)
              have o1 := oss_of o1
              have z1 := hqx7.size
              obtain ⟨a1, c1, rfl, -⟩ := oss_shape o1
              refine ⟨_, rfl, hp_later k3 hQx7, ?_⟩
              simp only [Act.put, List.setIfInBounds_toArray, List.set_cons_zero, List.set_cons_succ]
              have HGA := hp_later hgx6 hqx7
              refine mt_call 5 _ rfl rfl 78 #[.slice ac gc.length cc] (some 35) rfl ?hr ?_
              case hr => go_simp
              refine (HO2.out _ (hb3.trans (hQx7.mono hz3))).mono ?_
              rintro e x8 ⟨v2, rfl, o2, hqx8⟩
              have hQx8 := hQx7.trans (hqx8.mono hQx7.size)
              have o2 := oss_of o2
              have z2 := hqx8.size
              obtain ⟨a2, c2, rfl, -⟩ := oss_shape o2
              refine ⟨_, rfl, hp_later k3 hQx8, ?_⟩
              simp only [Act.put, List.setIfInBounds_toArray, List.set_cons_zero, List.set_cons_succ]
              have o1 := oss_keep o1 (chg_below hqx8) (Nat.le_refl _) (.inl (Nat.zero_le _))
              have HGB := hp_later HGA hqx8
              refine mt_take 6 _ (.agg #[.slice a1 gr.length c1, .slice a2 gc.length c2]) rfl rfl (some 36) rfl (fun w' hw' => exec_build2 27 0 1 _ _ rfl (.slice a1 gr.length c1) (.slice a2 gc.length c2) rfl rfl _ (run_build_game _ _ _ _ _ _ w')) ?_
              simp only [Act.put, List.setIfInBounds_toArray, List.set_cons_zero, List.set_cons_succ]
              refine mt_store_blk blkG 8 _ rfl rfl _ _ rfl none rfl g #[.slice a1 gr.length c1, .slice a2 gc.length c2] zgame rfl rfl HGB rfl rfl (one2 _ _ _ _ _ _) w3.heap.size (by omega) ?_
              intro w8 hg8 hb8 hk8 hz8
              refine ⟨(hk8 _ (by omega)).trans (hp_later k3 hQx8), ?_⟩
              simp only [Act.put]
              refine mt_done ?_
              have hc8 : Chg g (g + 1) x8 w8 := ⟨hb8.os, hb8.tape, hb8.output, hb8.size, fun k _ hx => hk8 k (by omega)⟩
              exact hX g w8 a1 c1 a2 c2 x6.heap.size x7.heap.size x8.heap.size hg8 (by omega) (by omega) (by omega) (by omega) (by omega) (oss_keep o1 hc8 (by omega) (by omega)) (oss_keep o2 hc8 (by omega) (by omega)) (hQx8.trans hb8)
          case mainG =>
            intro g w7 a1 c1 a2 c2 s1 s2 s3 hg hgs hs1 hs2 hs3 hs4 o1 o2 hb7
            have hb7' := bnext hb3 hb7
            replace o1 : OSS w7 s1 s2 (.slice a1 gr.length c1) (gridL gr.length n X) := by rw [HSELF.out]; exact o1
            have q0 := blk_cell hg 0 _ rfl
            clear dR d0 k2
            go_wp2_with fail
            go_loopw [40] (fun v40 wr => ∃ (q : Nat) (f : Nat → Nat → Int), q ≤ gr.length ∧ v40 = .int .i64 q ∧ OSS wr s1 s2 (.slice a1 gr.length c1) (gridL gr.length n f) ∧ (∀ i c, f i c = if i < q ∧ c = J then X i c + k else X i c) ∧ Chg s1 s2 w7 wr) (fun v40 _ => gr.length - (intOf v40).toNat)
            case atStart => exact ⟨0, X, Nat.zero_le _, rfl, o1, fun i c => by simp, chg_refl _ _ _⟩
            case round =>
              clear o1 q0
              obtain ⟨q, f, hq, rfl, o1, hf, hch⟩ := hrel
              obtain ⟨wq, rfl⟩ : ∃ wq : World, wq = wr := ⟨_, rfl⟩
              have hgq := hp_chg hg hch hgs
              have q0 := blk_cell hgq 0 _ rfl
              by_cases hlt : q < gr.length
              · have hqi : (q : Int) < (gr.length : Int) := by omega
                have e1 : (gridL gr.length n f).getD q [] = rowL n (f q) := gridL_at _ _ _ _ hlt
                obtain ⟨ga, ra, rc, hge, kc, hrow⟩ := oss_cell o1 q (by rw [gridL_len]; exact hlt)
                rw [e1, rowL_len] at kc
                obtain ⟨rb, hra, hlo, hhi, hfr, hv, hput⟩ := hrow J (by rw [e1, rowL_len]; exact hJ)
                subst hge
                subst hra
                rw [e1, rowL_at _ _ _ hJ, hf q J, if_neg (by omega)] at hv
                have hxb := HBD.out q hlt
                have HPUT : Hid (OSS (wq.setCell ⟨rb, J, none⟩ (.int .i64 (X q J + k))) s1 s2 (.slice (some ⟨ga, 0, none⟩) gr.length c1) (gridL gr.length n (updF f q J (X q J + k)))) := Lib.hid (by
                  rw [← grid_put gr.length n f q J _ hlt hJ]; exact hput _)
                have HFF : Hid (∀ i c, updF f q J (X q J + k) i c = if i < q + 1 ∧ c = J then X i c + k else X i c) := Lib.hid (fun i c => by
                  unfold updF
                  by_cases h : i = q ∧ c = J
                  · obtain ⟨rfl, rfl⟩ := h
                    rw [if_pos ⟨rfl, rfl⟩, if_pos ⟨by omega, rfl⟩]
                  · rw [if_neg h, hf i c]
                    by_cases h2 : i < q ∧ c = J
                    · rw [if_pos h2, if_pos (by omega)]
                    · rw [if_neg h2, if_neg (by omega)])
                have HCH := Lib.hid (hch.trans (chg_wide (chg_put wq rb J (.int .i64 (X q J + k))) hlo (by omega)))
                clear o1 hf hch hrow hput e1
                generalize X q J = x at *
                have e1 : wrap64 (x + k) = x + k := IntWalk.wrap64_in _ ⟨by omega, by omega⟩
                have e3 : IntKind.i64.wrap (x + k) = x + k := IntWalk.i64_in _ ⟨by omega, by omega⟩
                go_wp2_with fail
                go_roundw
                case rel => exact ⟨q + 1, _, by omega, by go_num, HPUT.out, HFF.out, HCH.out⟩
                case measure => simp [intOf]; omega
              · have hqn : ¬ (q : Int) < (gr.length : Int) := by omega
                have he := HAL.out f (fun i c hi hc => by rw [hf i c]; by_cases e : c = J; (· rw [if_pos ⟨by omega, e⟩, if_pos e]); (· rw [if_neg (fun h => e h.2), if_neg e]))
                have hlen : gr.length = R.length := by rw [← he, gridL_len]
                rw [he] at o1
                have o2' := oss_keep o2 hch hs4 (.inl (Nat.le_refl _))
                have hzq := hch.size
                have q1 := blk_cell hgq 1 _ rfl
                have HGG := Lib.hid (gmGood_any R gc a1 a2 c1 c2 wq.heap.size wq (rdss_mono (oss_rd o1).2 (by omega)) (rdss_mono (oss_rd o2').2 (by omega)) (Nat.le_refl _))
                rw [HGD.out, ← hlen] at HGG
                have hB7 : Below w2.heap.size w2 wq := below_chg hb7' hch (by omega) (.inl (by omega))
                have k6 := hp_later g2 hB7
                have HL := Lib.hid hlen
                have HCHQ := Lib.hid hch
                clear he hf hch hlen hlt hq
                go_wp2_with fail
                refine HGG.out.mono ?_
                rintro e w9 ⟨rfl, hb9⟩
                have hB9 := bnext hB7 hb9
                have k9 := hp_later k6 hb9
                have hg9 := hp_later hgq hb9
                have o1 := oss_keep o1 (chg_below hb9) (by omega) (.inl (Nat.zero_le _))
                have o2 := oss_keep o2' (chg_below hb9) (by omega) (.inl (Nat.zero_le _))
                have hz9 := hb9.size
                go_wp2_with (first | ((with_reducible refine load_blk blkG ?_ _ rfl (g) ?_ (#[.slice a1 gr.length c1, .slice a2 gc.length c2]) hg9 (rfl) ?_); exact rfl; exact rfl; simp only [Act.put, List.setIfInBounds_toArray, List.set_cons_zero, List.set_cons_succ]) | ((with_reducible refine store_blk blkG rfl _ _ rfl (w.heap.size + 1) (#[.slice a1 gr.length c1, .slice a2 gc.length c2]) (zgame) ?_ ?_ k9 (rfl) (rfl) ((one2 _ _ _ _ _ _)) (w.heap.size) (by omega) ?_); exact rfl; exact rfl; intro w8 hg8 hb8 hk8 hz8))
                have hz2 := HZ2.out
                have hch8 : Chg (w.heap.size + 1) (w.heap.size + 2) w9 w8 := ⟨hb8.os, hb8.tape, hb8.output, hb8.size, fun k _ hx => hk8 k (by omega)⟩
                exact bodyPost_ret (results_blk blkG rfl _ _ (w.heap.size + 1) _ (.bool true) rfl rfl hg8 rfl) rfl ⟨_, _, rfl, ⟨s2, by omega, by omega, oss_low (oss_keep o1 hch8 (by omega) (.inl (by omega))) (by omega), oss_high (oss_keep o2 hch8 (by omega) (.inl (by omega))) (by omega)⟩, (bnext hb hB9).trans hb8⟩
      · have HF : Hid (atB gr gc J k = false) := Lib.hid (by rw [atB, hAT2, decide_eq_false h2]; rfl)
        rw [HF.out]
        have hJi : (J : Int) ≤ (n : Int) - 1 := by omega
        have HK2 := Lib.hid h2
        clear hr2 hc2 eg k1 k2' hn hAT hAT2 h1 h2 hxR kR
        clear hw1 hw2 hz1 hz2 hb1 hb2 hr hc
        go_enter Try.func43, Try.ntmps43
        go_wp2_with ((with_reducible refine alloc_blk zgame run_alloc_game rfl rfl ?_); simp only [World.size_alloc, Act.put, List.setIfInBounds_toArray, List.set_cons_zero, List.set_cons_succ])
        rw [← HW1.out, ← HW2.out]
        refine HG.out.mono ?_
        rintro e w3 ⟨rfl, hb3⟩
        have k2 := hp_later g2 hb3
        have d0 := blk_cell (hp_later g1 hb3) 0 _ rfl
        have dR := HKR.out _ hb3
        go_wp2_with fail
        refine (l1In_yes J 0 _ ⟨by omega, by omega⟩ _).mono ?_
        rintro e w' ⟨rfl, rfl⟩
        go_wp2_with fail
        refine (l1In_no k _ _ HK2.out _).mono ?_
        rintro e w' ⟨rfl, rfl⟩
        go_wp2_with (first | (with_reducible refine build0_blk zgame run_build0_game rfl rfl ?_) | ((with_reducible refine store_blk blkG rfl _ _ rfl (w.heap.size + 1) (zgame) (zgame) ?_ ?_ k2 (rfl) (rfl) (zgame_one) (w.heap.size) (by omega) ?_); exact rfl; exact rfl; intro w8 hg8 hb8 hk8 hz8))
        exact bodyPost_ret (results_blk blkG rfl _ _ (w.heap.size + 1) _ (.bool false) rfl rfl hg8 rfl) rfl ⟨_, _, rfl, og_nil _ _ _ ((bnext hb hb3).trans hb8).size, (bnext hb hb3).trans hb8⟩
    · have HF : Hid (atB gr gc j k = false) := Lib.hid (by rw [atB, hAT false (by simpa using h1)]; rfl)
      rw [HF.out]
      have HJ2 : Hid (¬ (0 ≤ j ∧ j ≤ (n : Int) - 1)) := Lib.hid (by omega)
      clear hr2 hc2 eg k1 k2' hn hAT h1 hxR kR
      clear hw1 hw2 hz1 hz2 hb1 hb2 hr hc
      go_enter Try.func43, Try.ntmps43
      go_wp2_with ((with_reducible refine alloc_blk zgame run_alloc_game rfl rfl ?_); simp only [World.size_alloc, Act.put, List.setIfInBounds_toArray, List.set_cons_zero, List.set_cons_succ])
      rw [← HW1.out, ← HW2.out]
      refine HG.out.mono ?_
      rintro e w3 ⟨rfl, hb3⟩
      have k2 := hp_later g2 hb3
      have d0 := blk_cell (hp_later g1 hb3) 0 _ rfl
      have dR := HKR.out _ hb3
      go_wp2_with fail
      refine (l1In_no j 0 _ HJ2.out _).mono ?_
      rintro e w' ⟨rfl, rfl⟩
      go_wp2_with (first | (with_reducible refine build0_blk zgame run_build0_game rfl rfl ?_) | ((with_reducible refine store_blk blkG rfl _ _ rfl (w.heap.size + 1) (zgame) (zgame) ?_ ?_ k2 (rfl) (rfl) (zgame_one) (w.heap.size) (by omega) ?_); exact rfl; exact rfl; intro w8 hg8 hb8 hk8 hz8))
      exact bodyPost_ret (results_blk blkG rfl _ _ (w.heap.size + 1) _ (.bool false) rfl rfl hg8 rfl) rfl ⟨_, _, rfl, og_nil _ _ _ ((bnext hb hb3).trans hb8).size, (bnext hb hb3).trans hb8⟩
theorem at_yes {gr gc : List (List Int)} {j k : Int} (h : atB gr gc j k = true) : GOk gr gr.length (gr.getD 0 []).length ∧ GOk gc gr.length (gr.getD 0 []).length := by
  simp only [atB, atA, Bool.and_eq_true] at h
  exact gameB_sizes h.1.1.1
theorem ok_row' {rs : List (List Int)} {m n : Nat} (h : GOk rs m n) (k : Nat) : (rs.getD k []).length ≤ 3 := by
  by_cases hk : k < m
  · rw [h.len k hk]; exact h.n3
  · rw [List.getD_eq_getElem?_getD, List.getElem?_eq_none (by rw [h.rows]; omega)]; simp
theorem gridL_rows' (a b : Nat) (f : Nat → Nat → Int) (k : Nat) : ((gridL a b f).getD k []).length ≤ b := by
  by_cases h : k < a
  · rw [gridL_at _ _ _ _ h, rowL_len]; exact Nat.le_refl _
  · rw [List.getD_eq_getElem?_getD, List.getElem?_eq_none (by rw [gridL_len]; omega)]; simp
theorem at_len (b : Bool) (xs : List (List Int)) (h : b = true → xs.length ≤ 3) : (if b then xs else []).length ≤ 100000 := by
  cases b
  · simp
  · rw [if_pos rfl]; have := h rfl; omega
theorem at_row (b : Bool) (xs : List (List Int)) (h : b = true → ∀ k, (xs.getD k []).length ≤ 3) (k : Nat) : ((if b then xs else []).getD k []).length ≤ 1000 := by
  cases b
  · simp
  · rw [if_pos rfl]; have := h rfl k; omega
theorem law_AddToColumn (w : World) (gr : List (List Int)) (a_gr : Option Addr) (c_gr : Nat) (gc : List (List Int)) (a_gc : Option Addr) (c_gc : Nat) (h_gr : RdSS w w.heap.size a_gr gr) (h_gc : RdSS w w.heap.size a_gc gc) (j : Int) (_ : (Lit.int .i64 j).wf = true) (k : Int) (_ : (Lit.int .i64 k).wf = true) :
    Calls Try.prog 11 #[.agg #[.slice a_gr gr.length c_gr, .slice a_gc gc.length c_gc], .int .i64 j, .int .i64 k] w fun e w' => e = .returned (.bool true) ∧ Below w.heap.size w w' := by
  exact lawOf_AddToColumn gr a_gr c_gr gc a_gc c_gc j k w h_gr h_gc _ (at_len _ _ (fun h => by rw [gridL_len]; exact (at_yes h).1.m3)) (at_row _ _ (fun h q => Nat.le_trans (gridL_rows' _ _ _ q) (at_yes h).1.n3)) _ (at_len _ _ (fun h => by rw [(at_yes h).2.rows]; exact (at_yes h).1.m3)) (at_row _ _ (fun h => ok_row' (at_yes h).2)) _ (fun a c a' c' w' _ _ h h' => specAddToColumn gr gc j k a a' c c' w' h h') (fun a c a' c' w' _ _ h h' => implAddToColumn gr gc j k a a' c c' w' h h')
end Go.Proofs.Ytlkgmnmnlfaopaa
