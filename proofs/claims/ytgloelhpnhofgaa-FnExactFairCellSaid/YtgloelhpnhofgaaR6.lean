import Derived.Test.YtgloelhpnhofgaaR5
namespace Go.Proofs.Ytgloelhpnhofgaa
open Go.RowKit
set_option maxRecDepth 4000
set_option maxHeartbeats 1600000 in
theorem implDoorsOf (n : Int) (xs : List Int) (a : Option Addr) (b len cap : Nat) (w : World) (hn : xs.length = len) (hsm : len ≤ 1048576) (h : Rd w a b 0 xs) (hb0 : len = 0 ∨ b < w.heap.size) :
    Calls Try.prog 38 #[.int .i64 n, .slice a len cap] w (CGives w (outDoorsOf n xs) (labB n xs)) := by
  cases hL : labB n xs
  · have H1 : Hid (outDoorsOf n xs = []) := Lib.hid (by simp [outDoorsOf, hL])
    have HR := Lib.hid (roomsOf_no n xs a b len cap w hn hsm h hb0 hL)
    rw [H1.out]
    clear hL hn h hb0
    go_enter Try.func38, Try.ntmps38
    go_wp2_with fail
    refine HR.out.mono ?_
    rintro e w1 ⟨rfl, hb1⟩
    go_wp2_with (first | (with_reducible refine alloc_blk lr0 run_alloc_lr rfl rfl ?_) | ((with_reducible refine store_blk blkLR rfl _ _ rfl w1.heap.size lr0 lr0 ?_ ?_ ?_ lr0_size lr0_size lr0_one w1.heap.size (Nat.le_refl _) ?_); exact rfl; exact rfl; exact heap_alloc_new _ _; intro w3 hg3 hb3 hk3 hs3; have hB3 := bnext hb1 ((balloc (Below.refl w1.heap.size w1) (.cells lr0 65)).trans hb3)))
    go_ret2
    exact cgives_none hB3
  · obtain ⟨n, rfl⟩ := labB_nat hL
    obtain ⟨h1, h2, hl, -⟩ := labB_yes hL
    have H1 : Hid (outDoorsOf n xs = ((allN n (Pr.cnt n)).filter (drB xs)).map lst) := Lib.hid (by simp [outDoorsOf, hL, outp])
    have HPT := Lib.hid (pts_all n xs.length (by omega))
    have hal := allN_bd n h2 (Pr.cnt n) (Nat.le_refl _)
    have hfl : ((allN n (Pr.cnt n)).filter (drB xs)).length ≤ 2025 := Nat.le_trans (List.length_filter_le _ _) hal
    rw [H1.out]
    have HR := Lib.hid (roomsOf_yes n xs a b len cap w hn hsm h hb0 hL)
    have HL := Lib.hid hL
    clear hL hn h hb0 hl
    go_enter Try.func38, Try.ntmps38
    go_wp2_with fail
    refine HR.out.mono ?_
    rintro e w1 ⟨R, rfl, hrv, hb1⟩
    obtain ⟨g, r, hrm, hrs, hro, hRs, hRo, r0, rk, hrj, hgb⟩ := rt_row HL.out hrv
    go_wp2_with (first | (with_reducible refine alloc_blk lr0 run_alloc_lr rfl rfl ?_) | ((with_reducible refine store_blk blkLR rfl _ _ rfl w1.heap.size R lr0 ?_ ?_ ?_ lr0_size hRs hRo w1.heap.size (Nat.le_refl _) ?_); exact rfl; exact rfl; exact heap_alloc_new _ _; intro w3 hg3 hb3 hk3 hs3; have hB13 := ((balloc (Below.refl w1.heap.size w1) (.cells lr0 65)).trans hb3)))
    have hz3 : w1.heap.size < w3.heap.size := (Array.getElem?_eq_some_iff.1 hg3).1
    have hB3 := bnext hb1 hB13
    obtain ⟨hgb1, hgb2⟩ := hgb
    have hgb3 := (hB13.block g hgb2).trans hgb1
    have hgb4 : g < w3.heap.size := by omega
    have HAS := Lib.hid (asks_ci HL.out hgb3 hgb4 _ HPT.out)
    obtain ⟨ca, cc, ba, bc, hre, -⟩ := hrm.v
    subst hre
    have hj2 : R[48]? = some (.func (.func 90) #[] (capD g)) := hrj 2 (by omega)
    clear hrm hrv hB13 hb1
    refine wp_region_mix (fun w' => Below w3.heap.size w3 w') [3, 7, 8] [0, 1, 2, 4, 5, 6, 3, 7, 8, 9, 10] (by kernel_rfl) (by kernel_rfl) (fun _ _ d _ _ h => by cases d <;> exact h) (by kernel_rfl) rfl (Below.refl _ _).drew ?_
    refine mix_take 0 _ ?_ rfl rfl rfl (some 16) rfl (fun w' hw' => ?hv0) ?_
    case hv0 => (go_simp; with_reducible rfl)
    simp only [Act.put, List.setIfInBounds_toArray, List.set_cons_zero, List.set_cons_succ]
    refine mix_take 1 _ ?_ rfl rfl rfl (some 17) rfl (fun w' hw' => ?hv1) ?_
    case hv1 => (go_simp; with_reducible rfl)
    simp only [Act.put, List.setIfInBounds_toArray, List.set_cons_zero, List.set_cons_succ]
    refine mix_take 2 _ ?_ rfl rfl rfl (some 18) rfl (fun w' hw' => ?hv2) ?_
    case hv2 =>
      have q : w'.cell? ⟨w1.heap.size, 0, none⟩ = some (.int .i64 n) := blk_cell ((Below.block hw' _ hz3).trans hg3) 0 _ r0
      go_simp
      with_reducible rfl
    simp only [Act.put, List.setIfInBounds_toArray, List.set_cons_zero, List.set_cons_succ]
    refine mix_take 4 _ ?_ rfl rfl rfl (some 20) rfl (fun w' hw' => ?hv4) ?_
    case hv4 => (go_simp; with_reducible rfl)
    simp only [Act.put, List.setIfInBounds_toArray, List.set_cons_zero, List.set_cons_succ]
    refine mix_take 5 _ ?_ rfl rfl rfl (some 21) rfl (fun w' hw' => ?hv5) ?_
    case hv5 => (go_simp; with_reducible rfl)
    simp only [Act.put, List.setIfInBounds_toArray, List.set_cons_zero, List.set_cons_succ]
    refine mix_take 6 _ ?_ rfl rfl rfl (some 22) rfl (fun w' hw' => ?hv6) ?_
    case hv6 =>
      have q : w'.cell? ⟨w1.heap.size, 48, none⟩ = some (.func (.func 90) #[] (capD g)) := blk_cell ((Below.block hw' _ hz3).trans hg3) 48 _ hj2
      go_simp
      with_reducible rfl
    simp only [Act.put, List.setIfInBounds_toArray, List.set_cons_zero, List.set_cons_succ]
    refine mix_call 3 _ rfl rfl rfl 80 #[.agg #[.int .i64 n]] (some 19) rfl ?hr3 ?_
    case hr3 => go_simp
    refine (meshPairs_any n h1 h2 _).mono ?_
    rintro e w4 ⟨v, rfl, hp4, hb4⟩
    obtain ⟨pa, pc, pb, rfl, hpr⟩ := pair_shape hp4
    have hB4 : Below w3.heap.size w3 w4 := (Below.refl _ _).drew.trans hb4
    refine ⟨_, rfl, hB4, ?_⟩
    simp only [Act.put, List.setIfInBounds_toArray, List.set_cons_zero, List.set_cons_succ]
    refine mix_call 7 _ rfl rfl rfl 79 #[.slice pa (allN n (Pr.cnt n)).length pc, .func (.func 90) #[] (capD g)] (some 23) rfl ?hr7 ?_
    case hr7 => go_simp
    refine (among_any 90 #[] (capD g) (drB xs) (allN n (Pr.cnt n)) pa pb pc w4 door_cf (asks_later HAS.out hB4) hpr (by omega)).mono ?_
    rintro e w5 ⟨v, rfl, hp5, hb5⟩
    obtain ⟨da, dc, db, rfl, hdr⟩ := pair_shape hp5
    have hB5 := bnext hB4 hb5
    refine ⟨_, rfl, hB5, ?_⟩
    simp only [Act.put, List.setIfInBounds_toArray, List.set_cons_zero, List.set_cons_succ]
    refine mix_call 8 _ rfl rfl rfl 78 #[.slice da ((allN n (Pr.cnt n)).filter (drB xs)).length dc] (some 24) rfl ?hr8 ?_
    case hr8 => go_simp
    refine (listsOf_any _ da db dc w5 hdr (by omega)).mono ?_
    rintro e w6 ⟨v, rfl, hc6, hb6⟩
    obtain ⟨ta, tm, tc, rfl⟩ := cells_shape hc6
    have hB6 := bnext hB5 hb6
    refine ⟨_, rfl, hB6, ?_⟩
    simp only [Act.put, List.setIfInBounds_toArray, List.set_cons_zero, List.set_cons_succ]
    refine mix_take 9 _ ?_ rfl rfl rfl (some 4) rfl (fun w' hw' => ?hv9) ?_
    case hv9 => (go_simp; with_reducible rfl)
    simp only [Act.put, List.setIfInBounds_toArray, List.set_cons_zero, List.set_cons_succ]
    refine mix_take 10 _ ?_ rfl rfl rfl (some 5) rfl (fun w' hw' => ?hv10) ?_
    case hv10 => (go_simp; with_reducible rfl)
    simp only [Act.put, List.setIfInBounds_toArray, List.set_cons_zero, List.set_cons_succ]
    refine mix_done ?_
    have hB05 := bnext hB3 hB5
    clear hp4 hpr hp5 hdr hg3
    go_wp2_with fail
    go_ret2
    exact ⟨_, rfl, cells_base hc6 hB05.size, bnext hB3 hB6⟩
set_option maxHeartbeats 1600000 in
theorem implIsDoor (n : Int) (xs : List Int) (i : Int) (j : Int) (a : Option Addr) (b len cap : Nat) (w : World) (hn : xs.length = len) (hsm : len ≤ 1048576) (h : Rd w a b 0 xs) (hb0 : len = 0 ∨ b < w.heap.size) :
    Calls Try.prog 36 #[.int .i64 n, .slice a len cap, .int .i64 i, .int .i64 j] w fun e w' => e = .returned (.tuple #[.bool (valIsDoor n xs i j), .bool (okIsDoor n xs i j)]) ∧ Below w.heap.size w w' := by
  cases hL : labB n xs
  · have H1 : Hid (valIsDoor n xs i j = false ∧ okIsDoor n xs i j = false) := Lib.hid (by simp [valIsDoor, okIsDoor, pairB, hL])
    have HR := Lib.hid (roomsOf_no n xs a b len cap w hn hsm h hb0 hL)
    rw [H1.out.1, H1.out.2]
    clear hL hn h hb0
    go_enter Try.func36, Try.ntmps36
    go_wp2_with fail
    refine HR.out.mono ?_
    rintro e w1 ⟨rfl, hb1⟩
    go_wp2_with (first | (with_reducible refine alloc_blk lr0 run_alloc_lr rfl rfl ?_) | ((with_reducible refine store_blk blkLR rfl _ _ rfl w1.heap.size lr0 lr0 ?_ ?_ ?_ lr0_size lr0_size lr0_one w1.heap.size (Nat.le_refl _) ?_); exact rfl; exact rfl; exact heap_alloc_new _ _; intro w3 hg3 hb3 hk3 hs3; have hB3 := bnext hb1 ((balloc (Below.refl w1.heap.size w1) (.cells lr0 65)).trans hb3)))
    go_ret2
    exact ⟨rfl, hB3⟩
  · obtain ⟨n, rfl⟩ := labB_nat hL
    obtain ⟨h1, h2, hl, hA⟩ := labB_yes hL
    have hcn := (Pr.cnt_le n (by omega)).1
    cases hp : pairB n xs i j
    · have H1 : Hid (valIsDoor n xs i j = false ∧ okIsDoor n xs i j = false) := Lib.hid (by simp [valIsDoor, okIsDoor, hp])
      have HAN : Hid (∀ w', Calls Try.prog 76 #[.agg #[.int .i64 n], .int .i64 i, .int .i64 j] w' fun e w'' => e = .returned (.bool false) ∧ Below w'.heap.size w' w'') := Lib.hid (fun w' => by
        by_cases hq : (0 ≤ i ∧ i < (Pr.cnt n : Nat)) ∧ (0 ≤ j ∧ j < (Pr.cnt n : Nat))
        · obtain ⟨⟨h3, h4⟩, h5, h6⟩ := hq
          obtain ⟨i, rfl⟩ := Int.eq_ofNat_of_zero_le h3
          obtain ⟨j, rfl⟩ := Int.eq_ofNat_of_zero_le h5
          have e := areNeighbours_yes n i j h1 h2 (by omega) (by omega) w'
          have hN : nearB (pt n i) (pt n j) = false := by
            simpa [pairB, hL, ptB, show i < Pr.cnt n by omega, show j < Pr.cnt n by omega] using hp
          rwa [hN] at e
        · exact areNeighbours_no n i j h1 h2 hq w')
      rw [H1.out.1, H1.out.2]
      have HR := Lib.hid (roomsOf_yes n xs a b len cap w hn hsm h hb0 hL)
      have HL := Lib.hid hL
      clear hL hp hn h hb0 hl hA
      go_enter Try.func36, Try.ntmps36
      go_wp2_with fail
      refine HR.out.mono ?_
      rintro e w1 ⟨R, rfl, hrv, hb1⟩
      obtain ⟨g, r, hrm, hrs, hro, hRs, hRo, r0, rk, hrj, hgb⟩ := rt_row HL.out hrv
      go_wp2_with (first | (with_reducible refine alloc_blk lr0 run_alloc_lr rfl rfl ?_) | ((with_reducible refine store_blk blkLR rfl _ _ rfl w1.heap.size R lr0 ?_ ?_ ?_ lr0_size hRs hRo w1.heap.size (Nat.le_refl _) ?_); exact rfl; exact rfl; exact heap_alloc_new _ _; intro w3 hg3 hb3 hk3 hs3; have q0 := blk_cell hg3 0 _ r0; have hB13 := ((balloc (Below.refl w1.heap.size w1) (.cells lr0 65)).trans hb3)))
      refine (HAN.out _).mono ?_
      rintro e w4 ⟨rfl, hb4⟩
      go_wp2_with fail
      go_ret2
      exact ⟨rfl, bnext (bnext hb1 hB13) hb4⟩
    · have H1 : Hid (valIsDoor n xs i j = drB xs (i, j) ∧ okIsDoor n xs i j = true) := Lib.hid (by simp [valIsDoor, okIsDoor, hp, drB])
      rw [H1.out.1, H1.out.2]
      obtain ⟨n', i, j, e1, rfl, rfl, -, hi, hj, hN⟩ := pairB_yes hp
      obtain rfl : n = n' := by omega
      have HAN := Lib.hid (fun w' => areNeighbours_yes n i j h1 h2 hi hj w')
      rw [hN] at HAN
      have hil : i < xs.length := by omega
      have hjl : j < xs.length := by omega
      have HR := Lib.hid (roomsOf_yes n xs a b len cap w hn hsm h hb0 hL)
      have HL := Lib.hid hL
      clear hL hp hn h hb0 hl hA hN e1
      go_enter Try.func36, Try.ntmps36
      go_wp2_with fail
      refine HR.out.mono ?_
      rintro e w1 ⟨R, rfl, hrv, hb1⟩
      obtain ⟨g, r, hrm, hrs, hro, hRs, hRo, r0, rk, hrj, hgb⟩ := rt_row HL.out hrv
      go_wp2_with (first | (with_reducible refine alloc_blk lr0 run_alloc_lr rfl rfl ?_) | ((with_reducible refine store_blk blkLR rfl _ _ rfl w1.heap.size R lr0 ?_ ?_ ?_ lr0_size hRs hRo w1.heap.size (Nat.le_refl _) ?_); exact rfl; exact rfl; exact heap_alloc_new _ _; intro w3 hg3 hb3 hk3 hs3; have q0 := blk_cell hg3 0 _ r0; have hB13 := ((balloc (Below.refl w1.heap.size w1) (.cells lr0 65)).trans hb3)))
      refine (HAN.out _).mono ?_
      rintro e w4 ⟨rfl, hb4⟩
      obtain ⟨ca, cc, ba, bc, hre, -⟩ := hrm.v
      subst hre
      have hz3 : w1.heap.size < w3.heap.size := (Array.getElem?_eq_some_iff.1 hg3).1
      have hj2 : R[48]? = some (.func (.func 90) #[] #[.pointer (some ⟨g, 0, none⟩)]) := hrj 2 (by omega)
      have q48 : w4.cell? ⟨w1.heap.size, 48, none⟩ = some (.func (.func 90) #[] #[.pointer (some ⟨g, 0, none⟩)]) := blk_cell ((hb4.block _ hz3).trans hg3) 48 _ hj2
      obtain ⟨hgb1, hgb2⟩ := hgb
      have hB14 := bnext hB13 hb4
      have hgb3 := (hB14.block g hgb2).trans hgb1
      have hgb4 : g < w4.heap.size := Nat.lt_of_lt_of_le hgb2 hB14.size
      have hB4 := bnext hb1 hB14
      clear q0 r0 hg3 hb3 hb4 hB13 hrm hrv
      go_wp2_with fail
      refine (isDoor_any n xs i j g HL.out hil hjl _ hgb3 hgb4).mono ?_
      rintro e w5 ⟨rfl, hb5⟩
      go_wp2_with fail
      go_ret2
      exact ⟨rfl, bnext hB4 hb5⟩
end Go.Proofs.Ytgloelhpnhofgaa
