import Derived.LoopN
import Derived.BigRegion
import Derived.BigQuiet
import Derived.RegionTactic
import Derived.Test.YtlkgmnmnlfaopaaQ28
namespace Go.Proofs.Ytlkgmnmnlfaopaa
open Go.RowKit
set_option maxRecDepth 4000
set_option maxHeartbeats 6400000 in
theorem specZeroSum (rs : List (List Int)) (ar : Option Addr) (cr : Nat) (w : World) (hr : RdSS w w.heap.size ar rs) :
    Calls Try.prog 46 #[.slice ar rs.length cr] w (OutZeroSum w (if gB rs then rs else []) (if gB rs then negL rs else []) (gB rs)) := by
  obtain ⟨w1, hw1⟩ : ∃ w1, w1 = (w.alloc (.cells zgame 27)) := ⟨_, rfl⟩
  have hb1 : Below w.heap.size w w1 := by rw [hw1]; exact balloc (Below.refl w.heap.size w) _
  have g1 : w1.heap[w.heap.size]? = some (.cells zgame 27 (0, 0)) := by rw [hw1]; exact heap_alloc_new w _
  have hz1 : w1.heap.size = w.heap.size + 1 := by rw [hw1]; simp
  have hle : w.heap.size ≤ w1.heap.size := hb1.size
  have hr1 := rdss_chg hr (chg_below hb1) (Nat.le_refl _) (.inr rfl)
  have HA := Lib.hid (gmRows_any rs ar cr w.heap.size w1 hr1)
  have HW := Lib.hid hw1
  have HZ := Lib.hid hz1
  cases eg : gB rs
  · rw [eg] at HA
    clear hw1 hr hr1 eg hz1
    go_enter Try.func46, Try.ntmps46
    go_wp2_with ((with_reducible refine alloc_blk zgame run_alloc_game rfl rfl ?_); simp only [Act.put, List.setIfInBounds_toArray, List.set_cons_zero, List.set_cons_succ])
    rw [← HW.out]
    refine HA.out.mono ?_
    rintro e w3 ⟨rfl, rfl⟩
    go_wp2_with (first | (with_reducible refine build0_blk zgame run_build0_game rfl rfl ?_) | ((with_reducible refine store_blk blkG rfl _ _ rfl (w.heap.size) (zgame) (zgame) ?_ ?_ g1 (rfl) (rfl) (zgame_one) (w.heap.size) (by omega) ?_); exact rfl; exact rfl; intro w5 hg5 hb5 hk5 hz5))
    exact bodyPost_ret (results_blk blkG rfl _ _ (w.heap.size) _ (.bool false) rfl rfl hg5 rfl) rfl ⟨_, _, rfl, og_nil _ _ _ (hb1.trans hb5).size, hb1.trans hb5⟩
  · rw [eg] at HA
    have ok := gB_ok eg
    rw [if_pos rfl, if_pos rfl]
    obtain ⟨n, hn⟩ : ∃ n, n = (rs.getD 0 []).length := ⟨_, rfl⟩
    rw [← hn] at ok
    have HC := Lib.hid (gmOwn_any rs _ _ ok ar cr w.heap.size w1 hr1 hle)
    have HN := Lib.hid (fun w' (hb : Below w1.heap.size w1 w') => gmOwn_any rs _ _ ok ar cr w.heap.size w' (rdss_chg hr1 (chg_below hb) hle (.inr rfl)) (by have := hb.size; omega))
    have HSELF := Lib.hid (grid_self ok)
    have HBD := Lib.hid (fun i (hi : i < rs.length) j (hj : j < n) => ok.bd i hi j hj)
    have HNEG : Hid (∀ f : Nat → Nat → Int, (∀ i j, i < rs.length → j < n → f i j = -((rs.getD i []).getD j 0)) → gridL rs.length n f = negL rs) := Lib.hid (fun f h => by
      rw [grid_congr rs.length n f _ h, hn]; rfl)
    obtain ⟨X, hX⟩ : ∃ X : Nat → Nat → Int, X = (fun i j => (rs.getD i []).getD j 0) := ⟨_, rfl⟩
    have HXE : Hid (∀ i j, (rs.getD i []).getD j 0 = X i j) := Lib.hid (fun i j => by rw [hX])
    rw [← hX] at HSELF
    have hn3 := ok.n3
    have hm3 := ok.m3
    have hm1 := ok.m1
    clear hw1 hr hr1 eg hz1 ok hn hX
    generalize negL rs = ng at *
    go_enter Try.func46, Try.ntmps46
    go_wp2_with ((with_reducible refine alloc_blk zgame run_alloc_game rfl rfl ?_); simp only [Act.put, List.setIfInBounds_toArray, List.set_cons_zero, List.set_cons_succ])
    rw [← HW.out]
    refine HA.out.mono ?_
    rintro e w3 ⟨rfl, rfl⟩
    go_wp2_with fail
    refine HC.out.mono ?_
    rintro e w3 ⟨v1, rfl, hc1, hb3⟩
    have hz3 := hb3.size
    go_wp2_with fail
    refine (HN.out _ hb3).mono ?_
    rintro e w4 ⟨v2, rfl, hc2, hb4⟩
    have hz4 := hb4.size
    have o1 := oss_keep (oss_of hc1) (chg_below hb4) (Nat.le_refl _) (.inl (Nat.zero_le _))
    obtain ⟨a1, c1, rfl, -⟩ := oss_shape o1
    obtain ⟨a2, c2, rfl, -⟩ := oss_shape (oss_of hc2)
    have hb4' := bnext hb3 hb4
    have hbd := run_build_game a1 a2 rs.length rs.length c1 c2
    have k4 := hp_later g1 hb4'
    replace hc2 : CellsV w4 w3.heap.size (.slice a2 rs.length c2) (gridL rs.length n X) := by rw [HSELF.out]; exact hc2
    obtain ⟨gc, -, -, hgc, hgcl, -, -⟩ := cells_cell hc2 0 (by rw [gridL_len]; omega)
    subst hgc
    clear hb3 hb4 hc1
    go_wp2_with (first | (with_reducible refine build_blk #[.slice a1 rs.length c1, .slice (some ⟨gc, 0, none⟩) rs.length c2] #[(0, .slice a1 rs.length c1), (1, .slice (some ⟨gc, 0, none⟩) rs.length c2)] hbd rfl _ rfl rfl ?_) | (with_reducible refine alloc_blk zgame run_alloc_game rfl rfl ?_) | ((with_reducible refine store_blk blkG rfl _ _ rfl (w4.heap.size) (#[.slice a1 rs.length c1, .slice (some ⟨gc, 0, none⟩) rs.length c2]) (zgame) ?_ ?_ (heap_alloc_new _ _) (rfl) (rfl) ((one2 _ _ _ _ _ _)) (w4.heap.size) (by omega) ?_); exact rfl; exact rfl; intro w5 hg5 hb5 hk5 hz5; have q1 := blk_cell hg5 1 _ rfl))
    have hb5' : Below w4.heap.size w4 w5 := (balloc (Below.refl w4.heap.size w4) (.cells zgame 27)).trans hb5
    have hz5' := hb5'.size
    have hc5 := cells_now hc2 hb5'
    have o5 := oss_keep o1 (chg_below hb5') (by omega) (.inl (Nat.zero_le _))
    have k5 := hp_later k4 hb5'
    have hB5 := bnext (bnext hb1 hb4') hb5'
    clear hb5 hk5 hz5 hc2 o1 k4 hb5' hb4' hbd q1
    go_loopw [20] (fun v20 wr => ∃ (k : Nat) (f : Nat → Nat → Int), k ≤ rs.length ∧ v20 = .int .i64 k ∧ CellsV wr w3.heap.size (.slice (some ⟨gc, 0, none⟩) rs.length c2) (gridL rs.length n f) ∧ (∀ i c, f i c = if i < k then -(X i c) else X i c) ∧ Below w3.heap.size w5 wr ∧ wr.heap[w4.heap.size]? = some (.cells #[.slice a1 rs.length c1, .slice (some ⟨gc, 0, none⟩) rs.length c2] 27 (0, 0))) (fun v20 _ => rs.length - (intOf v20).toNat)
    case atStart => exact ⟨0, X, Nat.zero_le _, rfl, hc5, fun i c => by simp, Below.refl _ _, hg5⟩
    case round =>
      clear hg5 hc5
      obtain ⟨k, f, hk, rfl, hc, hf, hb, hg⟩ := hrel
      obtain ⟨wq, rfl⟩ : ∃ wq : World, wq = wr := ⟨_, rfl⟩
      by_cases hlt : k < rs.length
      · have hki : (k : Int) < (rs.length : Int) := by omega
        have e1 : ((gridL rs.length n f).getD k []).length = n := by rw [gridL_at _ _ _ _ hlt, rowL_len]
        obtain ⟨g, ra, rc, hge, hgl, c0, -⟩ := cells_cell hc k (by rw [gridL_len]; exact hlt)
        simp only [Option.some.injEq, Addr.mk.injEq, and_true] at hge
        subst hge
        rw [e1] at c0
        have HCQ := Lib.hid hc
        have HFQ := Lib.hid hf
        have HBQ := Lib.hid hb
        have HGQ := Lib.hid hg
        have HC0 := Lib.hid c0
        have hbk := hb.size
        clear hc hf hb hg e1
        go_wp2_with fail
        go_loopw [26] (fun v26 wr => ∃ (j : Nat) (f : Nat → Nat → Int), j ≤ n ∧ v26 = .int .i64 j ∧ CellsV wr w3.heap.size (.slice (some ⟨gc, 0, none⟩) rs.length c2) (gridL rs.length n f) ∧ (∀ i c, f i c = if i < k ∨ (i = k ∧ c < j) then -(X i c) else X i c) ∧ Below w3.heap.size w5 wr ∧ wr.heap[w4.heap.size]? = some (.cells #[.slice a1 rs.length c1, .slice (some ⟨gc, 0, none⟩) rs.length c2] 27 (0, 0)) ∧ wr.cell? ⟨gc, k, none⟩ = some (.slice ra n rc)) (fun v26 _ => n - (intOf v26).toNat)
        case atStart => exact ⟨0, f, Nat.zero_le _, rfl, HCQ.out, fun i c => by rw [HFQ.out]; simp, HBQ.out, HGQ.out, HC0.out⟩
        case round =>
          clear c0 hgl
          obtain ⟨j, f2, hj, rfl, hc, hf, hb, hg, c0⟩ := hrel
          obtain ⟨wm, rfl⟩ : ∃ wm : World, wm = wr := ⟨_, rfl⟩
          by_cases hlj : j < n
          · have hji : (j : Int) < (n : Int) := by omega
            have e1 : (gridL rs.length n f2).getD k [] = rowL n (f2 k) := gridL_at _ _ _ _ hlt
            obtain ⟨g, ra', rc', hge, hgl, c0', hrow⟩ := cells_cell hc k (by rw [gridL_len]; exact hlt)
            simp only [Option.some.injEq, Addr.mk.injEq, and_true] at hge
            subst hge
            rw [e1, rowL_len, c0] at c0'
            simp only [Option.some.injEq, Value.slice.injEq] at c0'
            obtain ⟨rfl, -, rfl⟩ := c0'
            obtain ⟨rb, cur, hra, hbr, hrl, hhr, hjc, hne, hpt⟩ := hrow j (by rw [e1, rowL_len]; exact hlj)
            subst hra
            have hv := cells_val hc k (by rw [gridL_len]; exact hlt) c0 j (by rw [e1, rowL_len]; exact hlj)
            rw [e1, rowL_at _ _ _ hlj] at hv
            have hfr := froz hhr j
            have hp2 := hpt wm (Below.refl _ _)
            have hfv : f2 k j = X k j := by rw [hf k j, if_neg (by omega)]
            rw [hfv] at hv
            have hxb := HBD.out k hlt j hlj
            rw [HXE.out] at hxb
            have HPUT : Hid (CellsV (wm.setCell ⟨rb, j, none⟩ (.int .i64 (-(X k j)))) w3.heap.size (.slice (some ⟨gc, 0, none⟩) rs.length c2) (gridL rs.length n (updF f2 k j (-(X k j))))) := Lib.hid (by
              rw [← grid_put rs.length n f2 k j _ hlt hlj]; exact hp2 _)
            have HFF : Hid (∀ i c, updF f2 k j (-(X k j)) i c = if i < k ∨ (i = k ∧ c < j + 1) then -(X i c) else X i c) := Lib.hid (fun i c => by
              unfold updF
              by_cases h : i = k ∧ c = j
              · obtain ⟨rfl, rfl⟩ := h
                rw [if_pos ⟨rfl, rfl⟩, if_pos (.inr ⟨rfl, by omega⟩)]
              · rw [if_neg h, hf i c]
                by_cases h2 : i < k ∨ (i = k ∧ c < j)
                · rw [if_pos h2, if_pos (by omega)]
                · rw [if_neg h2, if_neg (by omega)])
            have hgo : rb ≠ w4.heap.size := by
              intro e
              rw [e, hg] at hhr
              simp at hhr
            have HGN : Hid ((wm.setCell ⟨rb, j, none⟩ (.int .i64 (-(X k j)))).heap[w4.heap.size]? = some (.cells #[.slice a1 rs.length c1, .slice (some ⟨gc, 0, none⟩) rs.length c2] 27 (0, 0))) := Lib.hid ((heap_setCell_other _ _ _ _ (Ne.symm hgo)).trans hg)
            have HCN : Hid ((wm.setCell ⟨rb, j, none⟩ (.int .i64 (-(X k j)))).cell? ⟨gc, k, none⟩ = some (.slice (some ⟨rb, 0, none⟩) n rc)) := Lib.hid ((World.cell?_setCell_other _ _ _ _ (fun e => hne (congrArg Addr.block e).symm)).trans c0)
            have HBN := Lib.hid (hb.setCell (p := ⟨rb, j, none⟩) hbr (.int .i64 (-(X k j))))
            clear hc hf hb hg hrow hpt hp2 e1 hfv hhr c0 hgo hne
            generalize X k j = x at *
            have e1 : wrap64 (-x) = -x := IntWalk.wrap64_in _ ⟨by omega, by omega⟩
            have e3 : IntKind.i64.wrap (-x) = -x := IntWalk.i64_in _ ⟨by omega, by omega⟩
            go_wp2_with fail
            go_roundw
            case rel => exact ⟨j + 1, _, by omega, by go_num, HPUT.out, HFF.out, HBN.out, HGN.out, HCN.out⟩
            case measure => simp [intOf]; omega
          · have hjn : ¬ (j : Int) < (n : Int) := by omega
            have HFE : Hid (∃ f3, gridL rs.length n f2 = gridL rs.length n f3 ∧ ∀ i c, f3 i c = if i < k + 1 then -(X i c) else X i c) := Lib.hid ⟨fun i c => if i < k + 1 then -(X i c) else X i c, grid_congr _ _ _ _ (fun i c hi hc => by
              rw [hf i c]
              by_cases h2 : i < k ∨ (i = k ∧ c < j)
              · rw [if_pos h2, if_pos (by omega)]
              · rw [if_neg h2, if_neg (by omega)]), fun _ _ => rfl⟩
            clear hlj hj hf c0
            obtain ⟨f3, he, hf3⟩ := HFE.out
            rw [he] at hc
            clear he
            go_wp2_with fail
            go_roundw
            case rel => exact ⟨k + 1, f3, by omega, by go_num, hc, hf3, hb, hg⟩
            case measure => simp [intOf]; omega
      · have hkn : ¬ (k : Int) < (rs.length : Int) := by omega
        have he := HNEG.out f (fun i j hi hj => by rw [hf i j, if_pos (by omega), HXE.out])
        rw [he] at hc
        have hzq := hb.size
        have hch : Chg w3.heap.size wq.heap.size w5 wq := ⟨hb.os, hb.tape, hb.output, hb.size, fun i _ hx => hb.block i (by omega)⟩
        have o6 := oss_keep o5 hch (by omega) (.inr (Nat.le_refl _))
        have o7 := oss_of hc
        have k6 := (hb.block w.heap.size (by have := HZ.out; omega)).trans k5
        have hlen : rs.length = ng.length := by rw [← he, gridL_len]
        have HL := Lib.hid hlen
        have hB6 := hB5.trans (hb.mono (by omega))
        clear he hf hch hlen hlt hk
        go_wp2_with (first | ((with_reducible refine load_blk blkG ?_ _ rfl (w4.heap.size) ?_ (#[.slice a1 rs.length c1, .slice (some ⟨gc, 0, none⟩) rs.length c2]) hg (rfl) ?_); exact rfl; exact rfl; simp only [Act.put, List.setIfInBounds_toArray, List.set_cons_zero, List.set_cons_succ]) | ((with_reducible refine store_blk blkG rfl _ _ rfl (w.heap.size) (#[.slice a1 rs.length c1, .slice (some ⟨gc, 0, none⟩) rs.length c2]) (zgame) ?_ ?_ k6 (rfl) (rfl) ((one2 _ _ _ _ _ _)) (w.heap.size) (by omega) ?_); exact rfl; exact rfl; intro w8 hg8 hb8 hk8 hz8))
        have hz1 := HZ.out
        have hch8 : Chg w.heap.size (w.heap.size + 1) wq w8 := ⟨hb8.os, hb8.tape, hb8.output, hb8.size, fun k _ hx => hk8 k (by omega)⟩
        exact bodyPost_ret (results_blk blkG rfl _ _ (w.heap.size) _ (.bool true) rfl rfl hg8 rfl) rfl ⟨_, _, rfl, ⟨w3.heap.size, by omega, by omega, oss_low (oss_keep o6 hch8 (by omega) (.inl (by omega))) (by omega), oss_high (oss_keep o7 hch8 (by omega) (.inl (by omega))) (by omega)⟩, hB6.trans hb8⟩
theorem gridL_rows (a b : Nat) (f : Nat → Nat → Int) (k : Nat) : ((gridL a b f).getD k []).length ≤ b := by
  by_cases h : k < a
  · rw [gridL_at _ _ _ _ h, rowL_len]; exact Nat.le_refl _
  · rw [List.getD_eq_getElem?_getD, List.getElem?_eq_none (by rw [gridL_len]; omega)]; simp
theorem zs_len (rs xs : List (List Int)) (h : gB rs = true → xs.length ≤ 3) : (if gB rs then xs else []).length ≤ 100000 := by
  cases e : gB rs
  · simp
  · rw [if_pos rfl]; have := h e; omega
theorem zs_row (rs xs : List (List Int)) (h : gB rs = true → ∀ k, (xs.getD k []).length ≤ 3) (k : Nat) : ((if gB rs then xs else []).getD k []).length ≤ 1000 := by
  cases e : gB rs
  · simp
  · rw [if_pos rfl]; have := h e k; omega
theorem ok_row {rs : List (List Int)} {m n : Nat} (h : GOk rs m n) (k : Nat) : (rs.getD k []).length ≤ 3 := by
  by_cases hk : k < m
  · rw [h.len k hk]; exact h.n3
  · rw [List.getD_eq_getElem?_getD, List.getElem?_eq_none (by rw [h.rows]; omega)]; simp
theorem law_ZeroSum (w : World) (g : List (List Int)) (a_g : Option Addr) (c_g : Nat) (h_g : RdSS w w.heap.size a_g g) :
    Calls Try.prog 12 #[.slice a_g g.length c_g] w fun e w' => e = .returned (.bool true) ∧ Below w.heap.size w w' :=
  lawOf_ZeroSum g a_g c_g w h_g _ (zs_len g g (fun h => (gB_ok h).m3)) (zs_row g g (fun h => ok_row (gB_ok h))) _ (zs_len g _ (fun h => by rw [gridL_len]; exact (gB_ok h).m3)) (zs_row g _ (fun h k => Nat.le_trans (gridL_rows _ _ _ k) (gB_ok h).n3)) _ (fun a c w' _ h' => specZeroSum g a c w' h') (fun a c w' _ h' => implZeroSum g a c w' h')
end Go.Proofs.Ytlkgmnmnlfaopaa
