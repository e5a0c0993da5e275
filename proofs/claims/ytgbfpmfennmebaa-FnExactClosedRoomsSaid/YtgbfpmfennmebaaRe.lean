import Derived.Test.YtgbfpmfennmebaaRd
namespace Go.Proofs.Ytgbfpmfennmebaa
open Go.RowKit
set_option maxRecDepth 4000
theorem wks_shape {w : World} {base : Nat} {v : Value} {cs : List (Array Value)} (h : WksV w base v cs) (hs : ∀ c ∈ cs, c.size = 7) : ∃ a cap, v = .slice a cs.length cap ∧ ∀ k, k < cs.length → ∃ g cur, a = some ⟨g, 0, none⟩ ∧ base ≤ g ∧ w.heap[g]? = some (.cells cur 104 (0, 0)) ∧ ∀ j, j < 7 → cur[k * 7 + j]? = (cs.getD k #[])[j]? := by
  rcases h.2 with ⟨rfl, h0⟩ | ⟨g, cap, cur, rfl, hg, hh, hc, hm, hs', ht⟩
  · exact ⟨none, 0, by rw [h0], fun k hk => by omega⟩
  · refine ⟨_, cap, rfl, fun k hk => ⟨g, cur, rfl, hg, hh, fun j hj => ?_⟩⟩
    have e : (cur.toList.take (cs.length * 7))[k * 7 + j]? = (wfl cs)[k * 7 + j]? := by rw [ht]
    rw [List.getElem?_take, if_pos (by omega)] at e
    rw [← Array.getElem?_toList, e]
    exact wfl_at cs hs k j hk hj
theorem all_walks {xs : List Int} {n : Nat} (hL : labB n xs = true) : ∀ L ∈ wks xs n ++ wfs xs n, L.length ≤ (ci n).length ∧ ∀ i, i < L.length → L.getD i 0 < (ci n).length := by
  intro L hL'
  rw [List.mem_append] at hL'
  rcases hL' with h | h
  · obtain ⟨d, hd, rfl⟩ := List.mem_map.1 h
    exact ⟨wfrom_len _ _ _ _, wfrom_all (goes_border hL hd).1⟩
  · obtain ⟨k, hk, rfl⟩ := List.mem_map.1 h
    have hk' : k < (ci n).length ∧ fullB xs n k = true := by simpa [fls, List.mem_filter] using hk
    exact ⟨wfrom_len _ _ _ _, wfrom_all (full_door hL hk'.1 hk'.2).2.1⟩
set_option maxHeartbeats 3200000 in
theorem reached_any (n : Nat) (xs : List Int) (base : Nat) (R : Array Value) (w : World) (hL : labB n xs = true) (hrv : RoomsT w base n xs R) :
    Calls Try.prog 44 #[.agg R] w fun e w' => ∃ G, e = .returned (.slice (some ⟨G, 0, none⟩) (ci n).length (ci n).length) ∧ BRow w' G (rch xs n) ∧ Below w.heap.size w w' := by
  obtain ⟨h1, h2, -, -⟩ := labB_yes hL
  obtain ⟨g, r, hrm, hrs, hro, hRs, hRo, -, -, hrj, -⟩ := rt_row hL hrv
  obtain ⟨ca, cc, ba, bc, hre, -⟩ := hrm.v
  have r46 : R[46]? = some (.slice ca (ci n).length cc) := (hrj 0 (by omega)).trans (by rw [hre]; rfl)
  have hbd := ci_bd n h2
  have hb0 := balloc (Below.refl w.heap.size w) (.cells R 53)
  have hg0 := heap_alloc_new w (.cells R 53)
  have hz0 : (w.alloc (.cells R 53)).heap.size = w.heap.size + 1 := by simp
  have q46 : (w.alloc (.cells R 53)).cell? ⟨w.heap.size, 46, none⟩ = some (.slice ca (ci n).length cc) := (cell_of_row _ _ _ _ _ (0, 0) hg0).trans r46
  have HRV := Lib.hid (fun w' (hb : Below w.heap.size w w') => hrv.later hb)
  have HRM := Lib.hid (fun w' (hb : Below w.heap.size w w') => hrm.later hb)
  have HBD : Hid ((bps n (3 * n)).filter (drB xs) = bds n xs) := Lib.hid rfl
  have hbl := bds_len n xs
  have hfl := fls_len xs n
  have HG := Lib.hid (fun k (hk : k < (bds n xs).length) => goes_border hL (find_mem (bds n xs) (0, 0) k hk))
  have HWL := Lib.hid (wks_len xs n)
  have HWA := Lib.hid (wks_at xs n)
  have HFL := Lib.hid (wfs_len xs n)
  have HFA := Lib.hid (wfs_at xs n)
  have HFT := Lib.hid (fls_at xs n)
  have HFF := Lib.hid (fls_flt xs n)
  have HRC : Hid (rch xs n = mkAll (List.replicate (ci n).length false) (wks xs n ++ wfs xs n)) := Lib.hid rfl
  have HAW := Lib.hid (all_walks hL)
  have HL := Lib.hid hL
  obtain ⟨i0, hi, hz1, hz2, hz3⟩ := info_parts boolInfo
  clear hL hrv r46 hrm hre
  generalize bds n xs = ps at hbl HG HWL HWA HBD
  generalize fls xs n = fs at hfl HFL HFA HFT HFF
  generalize wks xs n = Ws at HWL HWA HRC HAW
  generalize wfs xs n = Fs at HFL HFA HRC HAW
  generalize rch xs n = st at HRC ⊢
  obtain ⟨m, hm⟩ : ∃ m, m = (ci n).length := ⟨_, rfl⟩
  have HMM := Lib.hid hm
  rw [← hm] at HRC hbd hfl HFT HAW q46 ⊢
  clear hm
  go_enter Try.func44, Try.ntmps44
  go_wp2_with (at_make; refine wpList_make_full _ rfl _ _ 62 rfl (w.alloc (.cells R 53)).heap.size 4 i0 (.bool false) 1 Try.underlying62 hi hz1 hz2 _ _ _ _ m rfl rfl ?hC ?hL ?hb2 ?hb3 ?hb4 ?_)
  case hC => rfl
  case hL => rfl
  case hb2 => rw [hz3]; omega
  case hb3 => unfold maxLen; omega
  case hb4 => exact Nat.le_refl _
  generalize w.alloc (.cells R 53) = w0 at hb0 hg0 hz0 q46 ⊢
  intro w1 ho1 hgr1
  have hB1 : Below w0.heap.size w0 w1 := (Below.refl _ _).grown hgr1 (Nat.le_refl _) (fun k hk => by cases hk)
  obtain ⟨hr1, -⟩ := brow_made ho1 (by first | exact toList_madeCells_one _ _ | (rw [Nat.mul_one]; exact toList_madeCells_one _ _))
  have hg1 := (hB1.block w.heap.size (by omega)).trans hg0
  have hB1 := bnext hb0 hB1
  clear ho1 hgr1 hg0 hb0
  go_wp2_with ((with_reducible refine load_win blkRms ?_ _ rfl (w.heap.size) 46 ?_ R r hg1 hrj hrs ?_); exact rfl; exact rfl; simp only [Act.put, List.setIfInBounds_toArray, List.set_cons_zero, List.set_cons_succ])
  refine (below_doors (fgr_ci HL.out) (HRM.out w1 hB1)).mono ?_
  rintro e w2 ⟨v, rfl, hp, hb2⟩
  rw [HBD.out] at hp
  obtain ⟨da, dc, db, rfl, hrd⟩ := pair_shape hp
  have HRD := Lib.hid hrd
  have hr2 := hr1.of hb2
  have hl1 := (Array.getElem?_eq_some_iff.1 hg1).1
  have hg2 := (hb2.block w.heap.size hl1).trans hg1
  have hB2 := bnext hB1 hb2
  have hs2 := hb2.size
  have hGlt := hr1.lt
  clear hp hrd hb2 hB1 hg1 hr1
  go_wp2_with fail
  go_loopw [4, 22] (fun v4 v20 wr => ∃ (k : Nat) (cs : List (Array Value)), k ≤ ps.length ∧ v20 = .int .i64 k ∧ WksV wr w2.heap.size v4 cs ∧ WRel wr w2.heap.size cs (Ws.take k) ∧ Below w2.heap.size w2 wr) (fun _ v20 _ => ps.length - (intOf v20).toNat)
  case atStart => exact ⟨0, [], Nat.zero_le _, rfl, World.ownsRow_nil _ _ _ _, WRel.nil _ _, Below.refl _ _⟩
  case round =>
    obtain ⟨k, cs, hk, rfl, hv, hwr, hb⟩ := hrel
    have hz := hb.size
    by_cases hlt : k < ps.length
    · obtain ⟨rfl, hbl', c0, c1⟩ := (HRD.out.later hb) k hlt
      obtain ⟨hgo, k0, hk0⟩ := HG.out k hlt
      have hki : (k : Int) < (ps.length : Int) := by omega
      have hWk : Hid (Ws.take (k + 1) = Ws.take k ++ [(wfrom xs n (-1) (ps.getD k (0, 0))).1]) := Lib.hid (by rw [take_at Ws [] k (by rw [HWL.out]; exact hlt), HWA.out k hlt])
      have hcl : cs.length = k := by rw [hwr.1, List.length_take, HWL.out]; omega
      have HGO := Lib.hid hgo
      clear hk0 hgo
      generalize ps.getD k (0, 0) = p at c0 c1 HGO hWk
      obtain ⟨p1, p2⟩ := p
      generalize hWW : wfrom xs n (-1) (p1, p2) = W at hWk
      have HWW := Lib.hid hWW
      obtain ⟨L, D, f⟩ := W
      simp only at c0 c1 hWk
      clear hWW
      obtain ⟨wi, hwi⟩ : ∃ wi : World, wi = wr := ⟨_, rfl⟩
      subst hwi
      have hgi := (hb.block w.heap.size (by omega)).trans hg2
      have hga := (Below.heap_alloc wi (.cells #[.int .i64 p1, .int .i64 p2] 61) w.heap.size (by omega)).trans hgi
      have hBa := balloc (bnext hB2 hb) (.cells #[.int .i64 p1, .int .i64 p2] 61)
      have hba := hb.alloc hz (.cells #[.int .i64 p1, .int .i64 p2] 61)
      have hva : WksV (wi.alloc (.cells #[.int .i64 p1, .int .i64 p2] 61)) w2.heap.size _ cs := World.ownsRow.alloc hv _
      have hwra := hwr.now (balloc (Below.refl wi.heap.size wi) (.cells #[.int .i64 p1, .int .i64 p2] 61))
      have hza : (wi.alloc (.cells #[.int .i64 p1, .int .i64 p2] 61)).heap.size = wi.heap.size + 1 := by simp
      clear hgi hb hv hwr
      go_wp2_with ((with_reducible refine load_win blkRms ?_ _ rfl (w.heap.size) 46 ?_ R r hga hrj hrs ?_); exact rfl; exact rfl; simp only [Act.put, List.setIfInBounds_toArray, List.set_cons_zero, List.set_cons_succ])
      have hwf := walkFrom_any _ #[] (capD g) (drB xs) (ci n) (bps n (3 * n)) (Pr.cnt n) _ r (-1) p1 p2 _ (fgr_ci HL.out) (HRM.out _ hBa) (goes_ci h2 HGO.out)
      rw [from_ci xs h2, HWW.out] at hwf
      refine hwf.mono ?_
      clear hwf
      rintro e w6 ⟨pv, u, v, rfl, ho6, -, hb6⟩
      have hB6 := bnext hba hb6
      have hs6 := hB6.size
      have ho6 := own_base (own_num ho6 (ints_len L).symm) (show w2.heap.size ≤ _ by omega)
      obtain ⟨-, pa, pc, pb, rfl, -⟩ := own_shape ho6
      have hwz : Hid ((wkA r (.slice pa (ints L).length pc) u v f).size = 7 ∧ (wkA r (.slice pa (ints L).length pc) u v f).all (·.oneCell') = true) := Lib.hid ⟨wkA_size _ _ _ _ _ hrs, wkA_one _ _ _ _ _ _ _ hro⟩
      have hv6 := own_now hva hb6
      have hwr6 := hwra.now hb6
      clear c0 c1 hga hBa hba hb6 hva hwra
      go_wp2_with (first
        | ((with_reducible refine bslice_wk rfl _ rfl _ ?_ hwz.out.1 ?_); exact rfl; simp only [Act.put, List.setIfInBounds_toArray, List.set_cons_zero, List.set_cons_succ])
        | (at_builtin; refine append_walk w2.heap.size _ w6 _ cs _ rfl _ _ rfl rfl rfl rfl hv6 hs6 (by omega) hwz.out.1 hwz.out.2 ?_; intro v' w7 hv7 hb7 hk7))
      have hwr7 := hwr6.push hk7 hv6 hrs hwz.out.2 ho6
      rw [← hWk.out] at hwr7
      go_roundw
      case rel => exact ⟨k + 1, _, by omega, by go_num, hv7, hwr7, hB6.trans hb7⟩
      case measure => simp [intOf]; omega
    · have e : k = Ws.length := by rw [HWL.out]; omega
      subst e
      rw [List.take_length] at hwr
      obtain ⟨wo, rfl⟩ : ∃ wo : World, wo = wr := ⟨_, rfl⟩
      have hgo := (hb.block w.heap.size (by omega)).trans hg2
      have hBo := bnext hB2 hb
      go_wp2_with ((with_reducible refine load_blk blkLR ?_ _ rfl (w.heap.size) ?_ R hgo hRs ?_); exact rfl; exact rfl; simp only [Act.put, List.setIfInBounds_toArray, List.set_cons_zero, List.set_cons_succ])
      refine (fullCells_any n xs _ R wo HL.out (HRV.out wo hBo)).mono ?_
      rintro e w4 ⟨vf, rfl, ho4, hb4⟩
      rw [HFF.out] at ho4
      obtain ⟨-, fa, fc, fb, rfl, -, -⟩ := own_shape ho4
      have hv4 := own_now hv hb4
      have hwr4 := hwr.now hb4
      have hB4 := hb.trans (hb4.mono hz)
      have HIG2 := Lib.hid (ints_getD fs)
      have hfil := Lib.hid (ints_len fs)
      have hfil2 : (ints fs).length ≤ m := by rw [hfil.out]; exact hfl
      have hWl2 : Ws.length ≤ 24 := by rw [HWL.out]; omega
      clear hv hwr hb hb4 hgo hBo
      go_wp2_with fail
      go_loopw [4, 37] (fun v4 v34 wr => ∃ (k : Nat) (cs : List (Array Value)), k ≤ (ints fs).length ∧ v34 = .int .i64 k ∧ WksV wr w2.heap.size v4 cs ∧ WRel wr w2.heap.size cs (Ws ++ Fs.take k) ∧ wr.ownsRow wo.heap.size 3 1 (.slice fa (ints fs).length fc) (ints fs).length ((ints fs).map (Value.int .i64)) ∧ Below w2.heap.size w2 wr) (fun _ v34 _ => (ints fs).length - (intOf v34).toNat)
      case atStart => exact ⟨0, cs, Nat.zero_le _, rfl, hv4, by rw [List.take_zero, List.append_nil]; exact hwr4, ho4, hB4⟩
      case round =>
        clear hv4 hwr4 ho4 hB4
        obtain ⟨k, cs, hk, rfl, hv, hwr, hof, hb⟩ := hrel
        have hz := hb.size
        by_cases hlt : k < (ints fs).length
        · obtain ⟨-, fa', fc', fb', hve, -, hfr⟩ := own_shape hof
          simp only [Value.slice.injEq, true_and] at hve
          obtain ⟨rfl, rfl⟩ := hve
          obtain ⟨rfl, c⟩ := hfr.2 k hlt
          rw [HIG2.out k, Nat.zero_add] at c
          have hltk : k < fs.length := by rw [← hfil.out]; exact hlt
          obtain ⟨hq1, hq2⟩ := HFT.out k hltk
          have hki : (k : Int) < ((ints fs).length : Int) := by omega
          have hWk : Hid (Ws ++ Fs.take (k + 1) = Ws ++ Fs.take k ++ [(wF xs n (fs.getD k 0)).1]) := Lib.hid (by rw [take_at Fs [] k (by rw [HFL.out]; exact hltk), HFA.out k hltk, List.append_assoc])
          have hcl : cs.length ≤ 2000 := by rw [hwr.1, List.length_append, List.length_take, HFL.out]; omega
          generalize fs.getD k 0 = q at c hq1 hq2 hWk
          have hqc : q < (ci n).length := by rw [← HMM.out]; exact hq1
          obtain ⟨wi, hwi⟩ : ∃ wi : World, wi = wr := ⟨_, rfl⟩
          subst hwi
          have hga := (hb.block w.heap.size (by omega)).trans hg2
          have HP := Lib.hid (walkFromFull_any n xs _ R q wi HL.out (HRV.out wi (bnext hB2 hb)) hqc hq2)
          generalize wF xs n q = W at hWk HP
          obtain ⟨L, D, f⟩ := W
          simp only at hWk
          clear hq2 hqc hfr
          go_wp2_with ((with_reducible refine load_blk blkLR ?_ _ rfl (w.heap.size) ?_ R hga hRs ?_); exact rfl; exact rfl; simp only [Act.put, List.setIfInBounds_toArray, List.set_cons_zero, List.set_cons_succ])
          refine HP.out.mono ?_
          rintro e w6 ⟨g2, r2, hrm2, pv, u, v, rfl, ho6, -, hb6⟩
          obtain ⟨hr2s, hr2o⟩ := rm_size hrm2
          have hB6 := hb.trans (hb6.mono hz)
          have hs6 := hB6.size
          have ho6 := own_base (own_num ho6 (ints_len L).symm) hz
          obtain ⟨-, pa, pc, pb, rfl, -⟩ := own_shape ho6
          have hwz : Hid ((wkA r2 (.slice pa (ints L).length pc) u v f).size = 7 ∧ (wkA r2 (.slice pa (ints L).length pc) u v f).all (·.oneCell') = true) := Lib.hid ⟨wkA_size _ _ _ _ _ hr2s, wkA_one _ _ _ _ _ _ _ hr2o⟩
          have hv6 := own_now hv hb6
          have hwr6 := hwr.now hb6
          have hof6 := own_now hof hb6
          clear c hga hb hb6 hv hwr hof HP
          go_wp2_with (first
            | ((with_reducible refine bslice_wk rfl _ rfl _ ?_ hwz.out.1 ?_); exact rfl; simp only [Act.put, List.setIfInBounds_toArray, List.set_cons_zero, List.set_cons_succ])
            | (at_builtin; refine append_walk w2.heap.size _ w6 _ cs _ rfl _ _ rfl rfl rfl rfl hv6 hs6 (by omega) hwz.out.1 hwz.out.2 ?_; intro v' w7 hv7 hb7 hk7))
          have hwr7 := hwr6.push hk7 hv6 hr2s hwz.out.2 ho6
          rw [← hWk.out] at hwr7
          have hof7 := own_keep hof6 (fun q hq => hk7 q (own_lt hof6 q hq) (own_ne hof6 hv6 q hq))
          go_roundw
          case rel => exact ⟨k + 1, _, by omega, by go_num, hv7, hwr7, hof7, hB6.trans hb7⟩
          case measure => simp [intOf]; omega
        · have e : k = Fs.length := by rw [HFL.out, ← hfil.out]; omega
          subst e
          rw [List.take_length] at hwr
          obtain ⟨w8, rfl⟩ : ∃ w8 : World, w8 = wr := ⟨_, rfl⟩
          obtain ⟨wa, wcap, rfl, hcells⟩ := wks_shape hv hwr.size
          have HCE := Lib.hid hcells
          have hcl : cs.length ≤ 2000 := by rw [hwr.1, List.length_append, HFL.out]; omega
          have HWR := Lib.hid hwr
          have hr8 : BRow w8 (w.heap.size + 1) (mkAll (List.replicate m false) ((Ws ++ Fs).take 0)) := (hb.block _ hr2.lt).trans hr2
          have hB8 := bnext hB2 hb
          clear hv hwr hof hcells hb
          go_wp2_with fail
          go_loopw [50] (fun v47 wr => ∃ k : Nat, k ≤ cs.length ∧ v47 = .int .i64 k ∧ BRow wr (w.heap.size + 1) (mkAll (List.replicate m false) ((Ws ++ Fs).take k)) ∧ Kp (w.heap.size + 1) w8 wr ∧ Below w.heap.size w wr) (fun v47 _ => cs.length - (intOf v47).toNat)
          case atStart => exact ⟨0, Nat.zero_le _, rfl, hr8, Kp.refl _ _, hB8⟩
          case round =>
            clear hr8 hB8
            obtain ⟨k, hk, rfl, hr, hkp, hb⟩ := hrel
            by_cases hlt : k < cs.length
            · obtain ⟨gw, cur, rfl, hgb, hcur, hcc⟩ := HCE.out k hlt
              obtain ⟨rr, pv, u, v, f, ee, h48, h1w, how⟩ := HWR.out.2 k hlt
              rw [ee] at hcc
              have hgl := (Array.getElem?_eq_some_iff.1 hcur).1
              have hcu := (hkp.2 gw hgl (by omega)).trans hcur
              have how := own_keep how (fun q hq => hkp.2 q (own_lt how q hq) (by have := (how.lt q hq).1; omega))
              have hlt2 : k < (Ws ++ Fs).length := by rw [← HWR.out.1]; exact hlt
              have hWk := Lib.hid (mkAll_take (List.replicate m false) (Ws ++ Fs) k hlt2)
              have hsl : (mkAll (List.replicate m false) ((Ws ++ Fs).take k)).length = m := by rw [mkAll_len, List.length_replicate]
              obtain ⟨hwl, hall⟩ := HAW.out _ (find_mem (Ws ++ Fs) [] k hlt2)
              have HAL := Lib.hid hall
              have hki : (k : Int) < (cs.length : Int) := by omega
              clear ee hcur hall hlt2
              generalize (Ws ++ Fs).getD k [] = L at how hWk hwl HAL
              generalize mkAll (List.replicate m false) ((Ws ++ Fs).take k) = s0 at hr hWk hsl
              obtain ⟨-, va, vc, vb, rfl, -, -⟩ := own_shape how
              have hwz : Hid ((wkA rr (.slice va (ints L).length vc) u v f).size = 7 ∧ (wkA rr (.slice va (ints L).length vc) u v f).all (·.oneCell') = true) := Lib.hid ⟨wkA_size _ _ _ _ _ h48, h1w⟩
              obtain ⟨wi, hwi⟩ : ∃ wi : World, wi = wr := ⟨_, rfl⟩
              subst hwi
              have hzi := hkp.1
              go_wp2_with (first
                | ((with_reducible refine load_win blkWalk ?_ _ rfl gw (k * 7) ?_ cur _ hcu hcc hwz.out.1 ?_); exact rfl; exact rfl; simp only [Act.put, List.setIfInBounds_toArray, List.set_cons_zero, List.set_cons_succ])
                | (with_reducible refine alloc_blk zeroW run_alloc_wk rfl rfl ?_)
                | ((with_reducible refine store_blk blkWalk rfl _ _ rfl wi.heap.size (wkA rr (.slice va (ints L).length vc) u v f) zeroW ?_ ?_ ?_ zeroW_size hwz.out.1 hwz.out.2 wi.heap.size (Nat.le_refl _) ?_); exact rfl; exact rfl; exact heap_alloc_new _ _; intro w7 hg7 hb7 hk7 hs7; have hB67 := ((balloc (Below.refl wi.heap.size wi) (.cells zeroW 104)).trans hb7); have q48 := blk_cell hg7 3 _ (wk_at h48 _ _ _ _ 0)))
              have hre := hr.of hB67
              have hB1e := bnext hb hB67
              have hKe := hkp.trans (Kp.of hB67)
              have hoe := own_now how hB67
              obtain ⟨-, va', vc', vb, hve, -, hvr⟩ := own_shape hoe
              simp only [Value.slice.injEq, true_and] at hve
              obtain ⟨rfl, rfl⟩ := hve
              have HOE := Lib.hid hoe
              have HVR := Lib.hid hvr
              have hil := Lib.hid (ints_len L)
              have hilb : (ints L).length ≤ m := by rw [hil.out]; exact hwl
              have HIG := Lib.hid (ints_getD L)
              clear hr hb hkp hoe how hvr hcu hcc hb7 hk7 hs7 hg7 hB67
              go_loopw [57] (fun v54 wr => ∃ i : Nat, i ≤ (ints L).length ∧ v54 = .int .i64 i ∧ BRow wr (w.heap.size + 1) (mk1 s0 (L.take i)) ∧ Kp (w.heap.size + 1) w7 wr ∧ Below w.heap.size w wr) (fun v54 _ => (ints L).length - (intOf v54).toNat)
              case atStart => exact ⟨0, Nat.zero_le _, rfl, hre, Kp.refl _ _, hB1e⟩
              case round =>
                clear hre hB1e
                obtain ⟨i, hi', rfl, hr, hkp, hb⟩ := hrel
                by_cases hli : i < (ints L).length
                · obtain ⟨rfl, cv⟩ := HVR.out.2 i hli
                  rw [HIG.out i, Nat.zero_add] at cv
                  have hvb := HOE.out.lt vb rfl
                  have cv := (hkp.cell (p := ⟨vb, i, none⟩) hvb.2 (by have := hvb.1; show vb ≠ (w.heap.size + 1); first | omega | (simp only [World.drew] at this; omega))).trans cv
                  have hll := HAL.out i (by rw [← hil.out]; exact hli)
                  have hmt := Lib.hid (mk1_take s0 L i (by rw [← hil.out]; exact hli))
                  have hcl : (mk1 s0 (L.take i)).length = m := by rw [mk1_len, hsl]
                  have hii : (i : Int) < ((ints L).length : Int) := by omega
                  generalize L.getD i 0 = l at cv hll hmt
                  have hlm : (l : Int) < (m : Int) := by omega
                  have cs := hr.cell l (by rw [hcl]; exact hll)
                  have cf := hr.fr l
                  have hrs := hr.set l true
                  rw [← hmt.out] at hrs
                  have hks := hkp.set l (.bool true)
                  have hbs := hb.setCell (p := ⟨(w.heap.size + 1), l, none⟩) (by show _ ≤ (w.heap.size + 1); omega) (.bool true)
                  have HR3 := Lib.hid hrs
                  clear hr hkp hb hrs
                  go_wp2_with fail
                  go_roundw
                  case rel => exact ⟨i + 1, by omega, by go_num, HR3.out, hks, hbs⟩
                  case measure => simp [intOf]; omega
                · have e : i = L.length := by rw [← hil.out]; omega
                  subst e
                  rw [List.take_length, ← hWk.out] at hr
                  go_wp2_with fail
                  go_roundw
                  case rel => exact ⟨k + 1, by omega, by go_num, hr, hKe.trans hkp, hb⟩
                  case measure => simp [intOf]; omega
            · have hrE : BRow wr (w.heap.size + 1) st := by
                have e : k = (Ws ++ Fs).length := by rw [← HWR.out.1]; omega
                have h := hr
                rw [e, List.take_length, ← HRC.out] at h
                exact h
              clear hr
              go_wp2_with fail
              go_ret
              exact ⟨_, rfl, hrE, hb⟩
end Go.Proofs.Ytgbfpmfennmebaa
