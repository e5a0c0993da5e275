import Derived.Test.YtgbfpmfennmebaaVl
namespace Go.Proofs.Ytgbfpmfennmebaa
open Go.RowKit
set_option maxRecDepth 4000
set_option maxHeartbeats 3200000 in
theorem specClosedRooms (n : Int) (xs : List Int) (a : Option Addr) (b len cap : Nat) (w : World) (hn : xs.length = len) (h : Rd w a b 0 xs) (hb0 : len = 0 ∨ b < w.heap.size) :
    Calls Try.prog 17 #[.int .i64 n, .slice a len cap] w fun e w' => e = .returned (.tuple #[.int .i64 (valClosed n xs), .bool (labB n xs)]) ∧ Below w.heap.size w w' := by
  have HM := Lib.hid (meLabels_any n xs a b 0 len cap w hn h)
  cases hL : labB n xs
  · have H1 : Hid (valClosed n xs = 0) := Lib.hid (by simp [valClosed, hL])
    rw [hL] at HM
    clear hL h
    go_enter Try.func17, Try.ntmps17
    go_wp2_with fail
    refine HM.out.mono ?_
    rintro e w1 ⟨rfl, rfl⟩
    go_wp2_with fail
    go_ret2
    exact ⟨ret_in H1.out rfl, Below.refl _ _⟩
  · obtain ⟨n, rfl⟩ := labB_nat hL
    rw [hL] at HM
    obtain ⟨h1, h2, -⟩ := labB_yes hL
    have H1 : Hid (valClosed n xs = (flt (clB xs n) (ci n).length).length) := Lib.hid (by simp [valClosed, hL])
    have HD := Lib.hid (fun w' (hb : Below w.heap.size w w') => doBorder_any n xs a b len cap w' hn (h.later hn hb0 hb) (lt_later hb0 hb) hL)
    have HF := Lib.hid (fun w' (hb : Below w.heap.size w w') => doAllFull_any n xs a b len cap w' hn (h.later hn hb0 hb) (lt_later hb0 hb) hL)
    have HRD := Lib.hid (fun w' (hb : Below w.heap.size w w') => h.later hn hb0 hb)
    have HRB := Lib.hid (fun w' (hb : Below w.heap.size w w') => lt_later hb0 hb)
    have hbl := bds_len n xs
    have hfl := fls_len xs n
    have HBL := Lib.hid (bds_lst n xs)
    have HLA := Lib.hid (lst_at (bds n xs))
    have HML : Hid (((bds n xs).map lst).length = (bds n xs).length) := Lib.hid (by simp)
    have HG := Lib.hid (fun k (hk : k < (bds n xs).length) => goes_border hL (find_mem (bds n xs) (0, 0) k hk))
    have HWL := Lib.hid (wks_len xs n)
    have HWA := Lib.hid (wks_at xs n)
    have HFL := Lib.hid (wfs_len xs n)
    have HFA := Lib.hid (wfs_at xs n)
    have HFT := Lib.hid (fls_at xs n)
    have HFF := Lib.hid (fls_flt xs n)
    have HRC : Hid (rch xs n = mkAll (mkAll (List.replicate (ci n).length false) (wks xs n)) (wfs xs n)) := Lib.hid (mkAll_app _ _ _)
    have HRL := Lib.hid (rch_len xs n)
    have HCL : Hid (∀ k, clB xs n k = ((dcell xs n k).length == 2 && !(rch xs n).getD k false)) := Lib.hid (fun _ => rfl)
    have HL := Lib.hid hL
    have HN := Lib.hid hn
    have HE := Lib.hid (ci_eq n (by omega) h1)
    have hbd := ci_bd n h2
    obtain ⟨i0, hi, hz0, hz1, hz2⟩ := info_parts boolInfo
    clear hL h hn hb0
    generalize bds n xs = ps at hbl HBL HLA HML HG HWL HWA
    generalize fls xs n = fs at hfl HFL HFA HFT HFF
    generalize wks xs n = Ws at HWL HWA HRC
    generalize wfs xs n = Fs at HFL HFA HRC
    generalize rch xs n = st at HRC HRL HCL
    generalize clB xs n = cB at HCL H1
    go_enter Try.func17, Try.ntmps17
    go_wp2_with fail
    refine HM.out.mono ?_
    rintro e w1 ⟨rfl, rfl⟩
    go_wp2_with fail
    refine (meCells_any n h1 h2 _).mono ?_
    rintro e w1 ⟨v, rfl, hc, hb1⟩
    rw [← HE.out] at hc
    obtain ⟨ca, cm, cc, rfl⟩ := cells_shape hc
    obtain ⟨rfl, -⟩ := cells_row hc
    have HC := Lib.hid hc
    clear hc HM
    obtain ⟨m, hm⟩ : ∃ m, m = (ci n).length := ⟨_, rfl⟩
    have HMM := Lib.hid hm
    rw [← hm] at HRC HRL hbd hfl HFT H1
    clear hm
    rw [← HMM.out]
    go_wp2_with (at_make; refine wpList_make_full _ rfl _ _ 62 rfl w1.heap.size 4 i0 (.bool false) 1 Try.underlying62 hi hz0 hz1 _ _ _ _ m rfl rfl ?hC ?hL ?hb2 ?hb3 ?hb4 ?_)
    case hC => rfl
    case hL => rfl
    case hb2 => rw [hz2]; omega
    case hb3 => unfold maxLen; omega
    case hb4 => exact Nat.le_refl _
    intro w2 ho2 hg2
    have hB2 : Below w1.heap.size w1 w2 := (Below.refl _ _).grown hg2 (Nat.le_refl _) (fun k hk => by cases hk)
    obtain ⟨hr2, -⟩ := brow_made ho2 (by first | exact toList_madeCells_one _ _ | (rw [Nat.mul_one]; exact toList_madeCells_one _ _))
    have hle0 := hb1.size
    clear ho2 hg2
    go_wp2_with fail
    refine (HD.out w2 (bnext hb1 hB2)).mono ?_
    rintro e w3 ⟨v, rfl, hc2, hb3⟩
    rw [HBL.out] at hc2
    obtain ⟨sa, sm, sc, rfl⟩ := cells_shape hc2
    obtain ⟨rfl, -, hrows⟩ := cells_row hc2
    have HRW := Lib.hid hrows
    have hB3 := bnext hB2 hb3
    have hr3 := hr2.of hb3
    have hlt2 := hr2.lt
    have hs3 := hb3.size
    clear hrows hc2 HD hB2 hb3 hr2
    rw [HML.out]
    go_wp2_with fail
    go_loopw [34] (fun v34 wr => ∃ k : Nat, k ≤ ps.length ∧ v34 = .int .i64 k ∧ BRow wr w1.heap.size (mkAll (List.replicate m false) (Ws.take k)) ∧ Kp w1.heap.size w3 wr ∧ Below w1.heap.size w1 wr) (fun v34 _ => ps.length - (intOf v34).toNat)
    case atStart => exact ⟨0, Nat.zero_le _, rfl, hr3, Kp.refl _ _, hB3⟩
    case round =>
      clear hr3 hB3
      obtain ⟨k, hk, rfl, hr, hkp, hb⟩ := hrel
      by_cases hlt : k < ps.length
      · obtain ⟨g, qa, qc, qb, rfl, hgb, hgl, c, hqx, hqr, hqo, -⟩ := HRW.out k (by rw [HML.out]; exact hlt)
        rw [HLA.out k hlt] at c hqr hqo
        have c := (hkp.cell (p := ⟨g, k, none⟩) hgl (by show g ≠ w1.heap.size; omega)).trans c
        have hqb : qa = some ⟨qb, 0, none⟩ ∧ w2.heap.size ≤ qb ∧ qb < w3.heap.size := by
          rcases hqx with h | ⟨h, h3, -⟩
          · have := (hqr.2 0 (by simp)).1
            rw [h] at this
            cases this
          · subst h
            exact ⟨rfl, (hqo.lt qb rfl).1, h3⟩
        obtain ⟨rfl, hqb1, hqb2⟩ := hqb
        have hqr := hkp.rd hqr hqb2 (by omega)
        have hz := hkp.1
        have hqb : qb < wr.heap.size := by omega
        obtain ⟨hgo, k0, hk0⟩ := HG.out k hlt
        have hwl := wfrom_len xs n (-1) (ps.getD k (0, 0))
        have hall := wfrom_all hgo
        rw [← HMM.out] at hwl hall
        have hki : (k : Int) < (ps.length : Int) := by omega
        have hz := hb.size
        have hWk : Hid (mkAll (List.replicate m false) (Ws.take (k + 1)) = mk1 (mkAll (List.replicate m false) (Ws.take k)) (wfrom xs n (-1) (ps.getD k (0, 0))).1) := Lib.hid (by rw [mkAll_take _ _ _ (by rw [HWL.out]; exact hlt), HWA.out k hlt])
        have hsl : (mkAll (List.replicate m false) (Ws.take k)).length = m := by rw [mkAll_len, List.length_replicate]
        clear hqx hqo hk0
        have HGO := Lib.hid hgo
        have HW2 := Lib.hid (wfrom_inner xs n (-1) (p := inner (ps.getD k (0, 0))) (q := ps.getD k (0, 0)) (inner_inner _ hgo.1))
        clear hgo
        generalize ps.getD k (0, 0) = p at c hqr HGO HW2 hwl hall hWk
        generalize mkAll (List.replicate m false) (Ws.take k) = s0 at hr hWk hsl
        obtain ⟨p1, p2⟩ := p
        generalize wfrom xs n (-1) (p1, p2) = W at HW2 hwl hall hWk
        obtain ⟨L, D, f⟩ := W
        simp only at hwl c hqr hall hWk
        obtain ⟨-, c0⟩ := hqr.2 0 (by simp)
        have c1 := (hqr.2 1 (by simp)).2
        rw [Nat.zero_add] at c0 c1
        simp only [List.getD_cons_zero, List.getD_cons_succ] at c0 c1
        obtain ⟨wi, hwi⟩ : ∃ wi : World, wi = wr := ⟨_, rfl⟩
        subst hwi
        clear hqr
        have HAL := Lib.hid hall
        clear hall
        go_wp2_with fail
        refine wp_region_mix (fun w' => Below wi.heap.size wi w') [8] [0, 1, 2, 3, 4, 5, 6, 7, 8, 9, 10, 11, 12, 13] (by kernel_rfl) (by kernel_rfl) (fun _ _ d _ _ h => by cases d <;> exact h) (by kernel_rfl) rfl (Below.refl _ _).drew ?_
        refine mix_take 0 _ ?_ rfl rfl rfl (some 39) rfl (fun w' hw' => ?hv0) ?_
        case hv0 =>
          go_simp
          with_reducible rfl
        simp only [Act.put, List.setIfInBounds_toArray, List.set_cons_zero, List.set_cons_succ]
        refine mix_take 1 _ ?_ rfl rfl rfl (some 40) rfl (fun w' hw' => ?hv1) ?_
        case hv1 =>
          go_simp
          with_reducible rfl
        simp only [Act.put, List.setIfInBounds_toArray, List.set_cons_zero, List.set_cons_succ]
        refine mix_take 2 _ ?_ rfl rfl rfl (some 41) rfl (fun w' hw' => ?hv2) ?_
        case hv2 =>
          go_simp
          with_reducible rfl
        simp only [Act.put, List.setIfInBounds_toArray, List.set_cons_zero, List.set_cons_succ]
        refine mix_take 3 _ ?_ rfl rfl rfl (some 42) rfl (fun w' hw' => ?hv3) ?_
        case hv3 =>
          go_simp
          with_reducible rfl
        simp only [Act.put, List.setIfInBounds_toArray, List.set_cons_zero, List.set_cons_succ]
        refine mix_take 4 _ ?_ rfl rfl rfl (some 43) rfl (fun w' hw' => ?hv4) ?_
        case hv4 =>
          have c0 := (Below.cell (p := ⟨qb, 0, none⟩) hw' hqb).trans c0
          have c1 := (Below.cell (p := ⟨qb, 1, none⟩) hw' hqb).trans c1
          go_simp
          with_reducible rfl
        simp only [Act.put, List.setIfInBounds_toArray, List.set_cons_zero, List.set_cons_succ]
        refine mix_take 5 _ ?_ rfl rfl rfl (some 44) rfl (fun w' hw' => ?hv5) ?_
        case hv5 =>
          go_simp
          with_reducible rfl
        simp only [Act.put, List.setIfInBounds_toArray, List.set_cons_zero, List.set_cons_succ]
        refine mix_take 6 _ ?_ rfl rfl rfl (some 45) rfl (fun w' hw' => ?hv6) ?_
        case hv6 =>
          go_simp
          with_reducible rfl
        simp only [Act.put, List.setIfInBounds_toArray, List.set_cons_zero, List.set_cons_succ]
        refine mix_take 7 _ ?_ rfl rfl rfl (some 46) rfl (fun w' hw' => ?hv7) ?_
        case hv7 =>
          have c0 := (Below.cell (p := ⟨qb, 0, none⟩) hw' hqb).trans c0
          have c1 := (Below.cell (p := ⟨qb, 1, none⟩) hw' hqb).trans c1
          go_simp
          with_reducible rfl
        simp only [Act.put, List.setIfInBounds_toArray, List.set_cons_zero, List.set_cons_succ]
        refine mix_call 8 _ rfl rfl rfl 40 #[.int .i64 n, .slice a len cap, .int .i64 p1, .int .i64 p2] (some 47) rfl ?hr8 ?_
        case hr8 => go_simp
        have hBw : Below w.heap.size w wi.drew := (bnext hb1 hb).drew
        refine (doFrom_any n xs p1 p2 a b len cap wi.drew HL.out HN.out (HRD.out _ hBw) (HRB.out _ hBw) (goes_inner HGO.out) HGO.out.1).mono ?_
        rw [HW2.out]
        rintro e we ⟨v, pd, bd, cd, rfl, hoe, -, -, hbe⟩
        have hoe := own_num hoe (ints_len L).symm
        obtain ⟨-, va, vc, vb, rfl, hvx, hvr⟩ := own_shape hoe
        have hBe : Below wi.heap.size wi we := (Below.refl _ _).drew.trans hbe
        refine ⟨_, rfl, hBe, ?_⟩
        simp only [Act.put, List.setIfInBounds_toArray, List.set_cons_zero, List.set_cons_succ]
        refine mix_take 9 _ ?_ rfl rfl rfl (some 38) rfl (fun w' hw' => ?hv9) ?_
        case hv9 =>
          go_simp
          with_reducible rfl
        simp only [Act.put, List.setIfInBounds_toArray, List.set_cons_zero, List.set_cons_succ]
        refine mix_take 10 _ ?_ rfl rfl rfl (some 48) rfl (fun w' hw' => ?hv10) ?_
        case hv10 =>
          go_simp
          with_reducible rfl
        simp only [Act.put, List.setIfInBounds_toArray, List.set_cons_zero, List.set_cons_succ]
        refine mix_take 11 _ ?_ rfl rfl rfl (some 49) rfl (fun w' hw' => ?hv11) ?_
        case hv11 =>
          go_simp
          with_reducible rfl
        simp only [Act.put, List.setIfInBounds_toArray, List.set_cons_zero, List.set_cons_succ]
        refine mix_take 12 _ ?_ rfl rfl rfl (some 10) rfl (fun w' hw' => ?hv12) ?_
        case hv12 =>
          go_simp
          with_reducible rfl
        simp only [Act.put, List.setIfInBounds_toArray, List.set_cons_zero, List.set_cons_succ]
        refine mix_take 13 _ ?_ rfl rfl rfl (some 11) rfl (fun w' hw' => ?hv13) ?_
        case hv13 =>
          go_simp
          with_reducible rfl
        simp only [Act.put, List.setIfInBounds_toArray, List.set_cons_zero, List.set_cons_succ]
        refine mix_done ?_
        have hre := hr.of hBe
        have hB1e := bnext hb hBe
        have hKe := hkp.trans (Kp.of hBe)
        have HOE := Lib.hid hoe
        have HVR := Lib.hid hvr
        have hil := Lib.hid (ints_len L)
        have hilb : (ints L).length ≤ m := by rw [hil.out]; exact hwl
        have HIG := Lib.hid (ints_getD L)
        clear hr hb hkp hoe hbe hvr c c0 c1 hBw HGO HW2
        go_wp2_with fail
        go_loopw [52] (fun v52 wr => ∃ i : Nat, i ≤ (ints L).length ∧ v52 = .int .i64 i ∧ BRow wr w1.heap.size (mk1 s0 (L.take i)) ∧ Kp w1.heap.size we wr ∧ Below w1.heap.size w1 wr) (fun v52 _ => (ints L).length - (intOf v52).toNat)
        case atStart => exact ⟨0, Nat.zero_le _, rfl, hre, Kp.refl _ _, hB1e⟩
        case round =>
          clear hre hB1e
          obtain ⟨i, hi', rfl, hr, hkp, hb⟩ := hrel
          by_cases hli : i < (ints L).length
          · obtain ⟨rfl, cv⟩ := HVR.out.2 i hli
            rw [HIG.out i, Nat.zero_add] at cv
            have hvb := HOE.out.lt vb rfl
            have cv := (hkp.cell (p := ⟨vb, i, none⟩) hvb.2 (by have := hvb.1; show vb ≠ w1.heap.size; first | omega | (simp only [World.drew] at this; omega))).trans cv
            have hll := HAL.out i (by rw [← hil.out]; exact hli)
            have hmt := Lib.hid (mk1_take s0 L i (by rw [← hil.out]; exact hli))
            have hcl : (mk1 s0 (L.take i)).length = m := by rw [mk1_len, hsl]
            have hii : (i : Int) < ((ints L).length : Int) := by omega
            generalize L.getD i 0 = l at cv hll hmt
            have hlm : (l : Int) < (m : Int) := by omega
            have cs := hr.cell l (by rw [hcl]; exact hll)
            have cf := hr.fr l
            have hrs := hr.set l true
            rw [← hmt.out] at hrs
            have hks := hkp.set l (.bool true)
            have hbs := hb.setCell (p := ⟨w1.heap.size, l, none⟩) (by show _ ≤ w1.heap.size; omega) (.bool true)
            have HR3 := Lib.hid hrs
            clear hr hkp hb hrs
            go_wp2_with fail
            go_roundw
            case rel => exact ⟨i + 1, by omega, by go_num, HR3.out, hks, hbs⟩
            case measure => simp [intOf]; omega
          · have e : i = L.length := by rw [← hil.out]; omega
            subst e
            rw [List.take_length, ← hWk.out] at hr
            go_wp2_with fail
            go_roundw
            case rel => exact ⟨k + 1, by omega, by go_num, hr, hKe.trans hkp, hb⟩
            case measure => simp [intOf]; omega
      · have e : k = Ws.length := by rw [HWL.out]; omega
        subst e
        rw [List.take_length] at hr
        have hBw := bnext hb1 hb
        have hlt3 := hr.lt
        have hzz := hkp.1
        clear HRW hkp
        go_wp2_with fail
        refine (HF.out wr hBw).mono ?_
        rintro e w4 ⟨v, rfl, ho4, hb4⟩
        rw [HFF.out] at ho4
        obtain ⟨-, fa, fc, fb, rfl, hfx, hfr⟩ := own_shape ho4
        have hr4 := hr.of hb4
        have hB4 := bnext hb hb4
        have HFR := Lib.hid hfr
        have HO4 := Lib.hid ho4
        have HIG2 := Lib.hid (ints_getD fs)
        have hfil := Lib.hid (ints_len fs)
        have hfil2 : (ints fs).length ≤ m := by rw [hfil.out]; exact hfl
        generalize mkAll (List.replicate m false) Ws = t0 at hr4 HRC hr
        have ht0 : t0.length = m := by
          have := HRL.out
          rw [HRC.out, mkAll_len] at this
          exact this
        clear hr hb hb4 hfr ho4 hBw HF
        go_wp2_with fail
        go_loopw [65] (fun v65 wr => ∃ k : Nat, k ≤ (ints fs).length ∧ v65 = .int .i64 k ∧ BRow wr w1.heap.size (mkAll t0 (Fs.take k)) ∧ Kp w1.heap.size w4 wr ∧ Below w1.heap.size w1 wr) (fun v65 _ => (ints fs).length - (intOf v65).toNat)
        case atStart => exact ⟨0, Nat.zero_le _, rfl, hr4, Kp.refl _ _, hB4⟩
        case round =>
          clear hr4 hB4
          obtain ⟨k, hk, rfl, hr, hkp, hb⟩ := hrel
          by_cases hlt : k < (ints fs).length
          · obtain ⟨rfl, c⟩ := HFR.out.2 k hlt
            rw [HIG2.out k, Nat.zero_add] at c
            have hfb := HO4.out.lt fb rfl
            have c := (hkp.cell (p := ⟨fb, k, none⟩) hfb.2 (by have := hfb.1; show fb ≠ w1.heap.size; omega)).trans c
            have hltk : k < fs.length := by rw [← hfil.out]; exact hlt
            obtain ⟨hq1, hq2⟩ := HFT.out k hltk
            have hWk : Hid (mkAll t0 (Fs.take (k + 1)) = mk1 (mkAll t0 (Fs.take k)) (wF xs n (fs.getD k 0)).1) := Lib.hid (by rw [mkAll_take _ _ _ (by rw [HFL.out]; exact hltk), HFA.out k hltk])
            have hsl : (mkAll t0 (Fs.take k)).length = m := by rw [mkAll_len, ht0]
            have hki : (k : Int) < ((ints fs).length : Int) := by omega
            generalize fs.getD k 0 = q at c hq1 hq2 hWk
            have hqc : q < (ci n).length := by rw [← HMM.out]; exact hq1
            have hwl : (wF xs n q).1.length ≤ (ci n).length := wfrom_len _ _ _ _
            have hall := wfrom_all (full_door HL.out hqc hq2).2.1
            rw [← HMM.out] at hwl
            have hBw := bnext hb1 hb
            have HP := Lib.hid (doPartner_any n q xs a b len cap wr HL.out hqc hq2 HN.out (HRD.out _ hBw) (HRB.out _ hBw))
            have HAL : Hid (∀ k, k < (wF xs n q).1.length → (wF xs n q).1.getD k 0 < m) := Lib.hid (by rw [HMM.out]; exact hall)
            generalize mkAll t0 (Fs.take k) = s0 at hr hWk hsl
            generalize wF xs n q = W at hWk hwl HP HAL
            obtain ⟨L, D, f⟩ := W
            simp only at hwl hWk HP HAL
            have hzw := hkp.1
            clear hall hq2 hqc hBw
            go_wp2_with fail
            refine HP.out.mono ?_
            rintro e we ⟨v, rfl, hoe, hbe⟩
            obtain ⟨-, va, vc, vb, rfl, hvx, hvr⟩ := own_shape hoe
            have hre := hr.of hbe
            have hB1e := bnext hb hbe
            have hKe := hkp.trans (Kp.of hbe)
            have HOE := Lib.hid hoe
            have HVR := Lib.hid hvr
            have hil := Lib.hid (ints_len L)
            have hilb : (ints L).length ≤ m := by rw [hil.out]; exact hwl
            have HIG := Lib.hid (ints_getD L)
            clear hr hb hkp hoe hbe hvr c HP
            go_wp2_with fail
            go_loopw [74] (fun v74 wr => ∃ i : Nat, i ≤ (ints L).length ∧ v74 = .int .i64 i ∧ BRow wr w1.heap.size (mk1 s0 (L.take i)) ∧ Kp w1.heap.size we wr ∧ Below w1.heap.size w1 wr) (fun v74 _ => (ints L).length - (intOf v74).toNat)
            case atStart => exact ⟨0, Nat.zero_le _, rfl, hre, Kp.refl _ _, hB1e⟩
            case round =>
              clear hre hB1e
              obtain ⟨i, hi', rfl, hr, hkp, hb⟩ := hrel
              by_cases hli : i < (ints L).length
              · obtain ⟨rfl, cv⟩ := HVR.out.2 i hli
                rw [HIG.out i, Nat.zero_add] at cv
                have hvb := HOE.out.lt vb rfl
                have cv := (hkp.cell (p := ⟨vb, i, none⟩) hvb.2 (by have := hvb.1; show vb ≠ w1.heap.size; first | omega | (simp only [World.drew] at this; omega))).trans cv
                have hll := HAL.out i (by rw [← hil.out]; exact hli)
                have hmt := Lib.hid (mk1_take s0 L i (by rw [← hil.out]; exact hli))
                have hcl : (mk1 s0 (L.take i)).length = m := by rw [mk1_len, hsl]
                have hii : (i : Int) < ((ints L).length : Int) := by omega
                generalize L.getD i 0 = l at cv hll hmt
                have hlm : (l : Int) < (m : Int) := by omega
                have cs := hr.cell l (by rw [hcl]; exact hll)
                have cf := hr.fr l
                have hrs := hr.set l true
                rw [← hmt.out] at hrs
                have hks := hkp.set l (.bool true)
                have hbs := hb.setCell (p := ⟨w1.heap.size, l, none⟩) (by show _ ≤ w1.heap.size; omega) (.bool true)
                have HR3 := Lib.hid hrs
                clear hr hkp hb hrs
                go_wp2_with fail
                go_roundw
                case rel => exact ⟨i + 1, by omega, by go_num, HR3.out, hks, hbs⟩
                case measure => simp [intOf]; omega
              · have e : i = L.length := by rw [← hil.out]; omega
                subst e
                rw [List.take_length, ← hWk.out] at hr
                go_wp2_with fail
                go_roundw
                case rel => exact ⟨k + 1, by omega, by go_num, hr, hKe.trans hkp, hb⟩
                case measure => simp [intOf]; omega
          · have e : k = Fs.length := by rw [HFL.out, ← hfil.out]; omega
            subst e
            rw [List.take_length, ← HRC.out] at hr
            clear hkp HFR HO4
            have HHR := Lib.hid hr
            obtain ⟨wo, rfl⟩ : ∃ wo : World, wo = wr := ⟨_, rfl⟩
            go_wp2_with fail
            go_loopw [18, 85] (fun v18 v85 wr => ∃ k : Nat, k ≤ m ∧ v85 = .int .i64 k ∧ v18 = .int .i64 (flt cB k).length ∧ Below wo.heap.size wo wr) (fun _ v85 _ => m - (intOf v85).toNat)
            case atStart => exact ⟨0, Nat.zero_le _, rfl, rfl, Below.refl _ _⟩
            case round =>
              obtain ⟨k, hk, rfl, rfl, hbc⟩ := hrel
              by_cases hlt : k < m
              · have hrc : BRow wr w1.heap.size st := (hbc.block w1.heap.size HHR.out.lt).trans HHR.out
                have cs := hrc.cell k (by rw [HRL.out]; exact hlt)
                have hBc := bnext hb hbc
                have hBw := bnext hb1 hBc
                have hkc : k < (ci n).length := by rw [← HMM.out]; exact hlt
                obtain ⟨-, rg, ra, rc, rb, rfl, c4, hr4, hrb, hrc1, hrc2⟩ := spec_cell3 h2 (cells_now HC.out hBc) hkc
                have hki : (k : Int) < (m : Int) := by omega
                have hfk := flt_len cB k
                have HYES := Lib.hid (flt_yes cB k)
                have HNO := Lib.hid (flt_no cB k)
                have HCK := Lib.hid (HCL.out k)
                have hltG := hrc.lt
                go_wp2_with fail
                refine (doOfCell_go n k xs a ra b rb len cap rc wr HL.out hkc HN.out (HRD.out _ hBw) hr4 (HRB.out _ hBw) hrb hrc1 hrc2).mono ?_
                rintro e w5 ⟨v, rfl, hc5, hb5⟩
                obtain ⟨sa5, sm5, sc5, rfl⟩ := cells_shape hc5
                obtain ⟨rfl, -⟩ := cells_row hc5
                have hml : ((dcell xs n k).map lst).length = (dcell xs n k).length := by simp
                rw [hml]
                have cs5 := (hb5.cell (p := ⟨w1.heap.size, k, none⟩) hltG).trans cs
                generalize (dcell xs n k).length = dl at HCK
                generalize st.getD k false = rb' at cs5 HCK
                have HY2 : Hid (cB k = true → (flt cB (k + 1)).length = (flt cB k).length + 1) := Lib.hid (fun h => by rw [HYES.out h, List.length_append]; rfl)
                have HN2 : Hid (cB k = false → (flt cB (k + 1)).length = (flt cB k).length) := Lib.hid (fun h => by rw [HNO.out h])
                clear HYES HNO
                generalize cB k = cb at HY2 HN2 HCK
                have HX : ∀ x : Nat, x = (flt cB k).length → x ≤ k := fun x hx => by omega
                generalize (flt cB k).length = fk at HY2 HN2 hfk HX ⊢
                have hB5 := hbc.trans (hb5.mono hbc.size)
                clear c4 hr4 hrb HX hc5
                by_cases hd : dl = 2
                · have hd1 : ((dl : Int) == 2) = true := by rw [hd]; rfl
                  cases rb'
                  · have e := Lib.hid (HY2.out (by rw [HCK.out, hd]; rfl))
                    clear hd
                    go_wp2_with fail
                    go_roundw
                    case rel => exact ⟨k + 1, by omega, by go_num, by rw [e.out]; go_num, hB5⟩
                    case measure => simp [intOf]; omega
                  · have e := Lib.hid (HN2.out (by rw [HCK.out, hd]; rfl))
                    clear hd
                    go_wp2_with fail
                    go_roundw
                    case rel => exact ⟨k + 1, by omega, by go_num, by rw [e.out], hB5⟩
                    case measure => simp [intOf]; omega
                · have hd1 : ((dl : Int) == 2) = false := by simp; omega
                  have e := Lib.hid (HN2.out (by rw [HCK.out]; simp [hd]))
                  clear hd
                  go_wp2_with fail
                  go_roundw
                  case rel => exact ⟨k + 1, by omega, by go_num, by rw [e.out], hB5⟩
                  case measure => simp [intOf]; omega
              · have e : k = m := by omega
                subst e
                go_wp2_with fail
                go_ret2
                exact ⟨ret_ii H1.out.symm rfl, bnext hb1 (bnext hb hbc)⟩
end Go.Proofs.Ytgbfpmfennmebaa
