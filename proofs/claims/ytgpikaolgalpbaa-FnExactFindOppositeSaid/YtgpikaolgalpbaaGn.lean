import Derived.Test.YtgpikaolgalpbaaGm
namespace Go.Proofs.Ytgpikaolgalpbaa
open Go.RowKit
set_option maxRecDepth 4000
theorem rd2 {w : World} {g : Nat} {x y : Int} {ty : TypeId} (h : w.heap[g]? = some (.cells #[.int .i64 x, .int .i64 y] ty (0, 0))) : Rd w (some ⟨g, 0, none⟩) g 0 [x, y] :=
  ⟨by simp [maxLen], fun j hj => by
    match j, hj with
    | 0, _ => exact ⟨rfl, blk_cell h 0 _ rfl⟩
    | 1, _ => exact ⟨rfl, blk_cell h 1 _ rfl⟩
    | j + 2, hj => exact absurd hj (by simp)⟩
theorem lg_same (a b c d : Int) : (lsI a b == lsI c d && gtI a b == gtI c d) = sameB (a, b) (c, d) := by
  rw [same_inner, inner_eq, inner_eq, Bool.eq_iff_iff]
  simp only [Bool.and_eq_true, beq_iff_eq, decide_eq_true_eq, Prod.mk.injEq]
theorem lst_at (ps : List (Int × Int)) (k : Nat) (hk : k < ps.length) : (ps.map lst).getD k [] = [(ps.getD k (0, 0)).1, (ps.getD k (0, 0)).2] := by
  rw [List.getD_eq_getElem?_getD, List.getElem?_map, List.getD_eq_getElem?_getD, List.getElem?_eq_getElem hk]; rfl
theorem gives2_walk {w w2 w9 : World} {xs : List Int} {n : Nat} {W : List Nat × (Int × Int) × Bool} {L1 L2 : List Int} {ok : Bool} {v1 v2 : Value} (h : L1 = ints W.1 ∧ L2 = edL (edgeP xs n W) ∧ ok = true)
    (ho : w9.ownsRow w2.heap.size 3 1 v1 (ints W.1).length ((ints W.1).map (Value.int .i64))) (ho2 : w9.ownsRow w2.heap.size 3 1 v2 (edL (edgeP xs n W)).length ((edL (edgeP xs n W)).map (Value.int .i64))) (hd : ∀ k, v1.ownBlock = some k → v2.ownBlock = some k → False) (hs : w.heap.size ≤ w2.heap.size) (hb : Below w.heap.size w w9) :
    Gives2 w 3 3 L1 L2 ok (.returned (.tuple #[v1, v2, .bool true])) w9 := by
  obtain ⟨rfl, rfl, rfl⟩ := h
  exact ⟨v1, v2, rfl, own_base ho hs, own_base ho2 hs, hd, hb⟩
set_option maxHeartbeats 3200000 in
theorem specSquareWalk (n : Int) (xs : List Int) (i j : Int) (a : Option Addr) (b len cap : Nat) (w : World) (hn : xs.length = len) (hsm : len ≤ 1048576) (h : Rd w a b 0 xs) (hb0 : len = 0 ∨ b < w.heap.size) :
    Calls Try.prog 38 #[.int .i64 n, .slice a len cap, .int .i64 i, .int .i64 j] w (Gives2 w 3 3 (val1 n xs i j) (val2 n xs i j) (okSW n xs i j)) := by
  have HM := Lib.hid (opLabels_any n xs a b 0 len cap w hn h hsm)
  cases hL : sqB n xs
  · have H1 := Lib.hid (sw_no i j hL)
    rw [hL] at HM
    clear hL h
    go_enter Try.func38, Try.ntmps38
    go_wp2_with fail
    refine HM.out.mono ?_
    rintro e w1 ⟨rfl, rfl⟩
    go_wp2_with fail
    go_returns
    exact gives2_none H1.out (Below.refl _ _)
  · obtain ⟨n, rfl, h1, h2, -⟩ := sqB_nat hL
    rw [hL] at HM
    have HDO := Lib.hid (opDoors_any n xs a b len cap w hn h hb0 hL)
    have HBL : Hid (outS xs 3 (sqPs n) = ((sqPs n).filter (sumB xs 3)).map lst) := Lib.hid rfl
    have HFS := Lib.hid (fun k hk h => find_step (0, 0) ((sqPs n).filter (sumB xs 3)) (fun q => sameB q (i, j)) k hk h)
    have hbl : ((sqPs n).filter (sumB xs 3)).length ≤ 32 := by have := List.length_filter_le (sumB xs 3) (sqPs n); rw [sqPs_len] at this; omega
    have HLA := Lib.hid (lst_at ((sqPs n).filter (sumB xs 3)))
    have HML : Hid ((((sqPs n).filter (sumB xs 3)).map lst).length = ((sqPs n).filter (sumB xs 3)).length) := Lib.hid (by simp)
    have HNONE : Hid (((sqPs n).filter (sumB xs 3)).find? (fun q => sameB q (i, j)) = none → val1 (n : Int) xs i j = [] ∧ val2 (n : Int) xs i j = [] ∧ okSW (n : Int) xs i j = false) := Lib.hid (fun h => sw_none h)
    have HSOME : Hid (∀ p, ((sqPs n).filter (sumB xs 3)).find? (fun q => sameB q (i, j)) = some p → (val1 (n : Int) xs i j = ints (swW n xs p).1 ∧ val2 (n : Int) xs i j = edL (edgeP xs n (swW n xs p)) ∧ okSW (n : Int) xs i j = true) ∧ lsI i j < gtI i j ∧ inner p = (lsI i j, gtI i j)) := Lib.hid (fun p h => by
      have hm := List.mem_of_find?_eq_some h
      have hsm := List.find?_some h
      rw [same_inner, decide_eq_true_eq] at hsm
      have hne := (sq_goes hL hm).1.1
      have hlt := inner_lt hne
      rw [hsm] at hlt
      exact ⟨sw_some hL h, hlt, hsm⟩)
    have HW := Lib.hid (fun p w' pd bd (hb : Below w.heap.size w w') (hp : p ∈ (sqPs n).filter (sumB xs 3)) hd hbd hxy hin => opWalk_any n xs a b len cap pd bd 2 (lsI i j) (gtI i j) p w' hn (h.later hn hb0 hb) (by have := hb.size; omega) hL hd hbd hxy hp hin)
    have HMEM := Lib.hid (fun k (hk : k < ((sqPs n).filter (sumB xs 3)).length) => find_mem ((sqPs n).filter (sumB xs 3)) (0, 0) k hk)
    clear hL h
    generalize (sqPs n).filter (sumB xs 3) = ps at HBL HFS hbl HLA HML HNONE HSOME HW HMEM
    go_enter Try.func38, Try.ntmps38
    go_wp2_with fail
    refine HM.out.mono ?_
    rintro e w1 ⟨rfl, rfl⟩
    go_wp2_with fail
    refine HDO.out.mono ?_
    rintro e w2 ⟨v, rfl, hc2, hb2⟩
    rw [HBL.out] at hc2
    obtain ⟨sa, sm, sc, rfl⟩ := cells_shape hc2
    obtain ⟨rfl, -, hrows⟩ := cells_row hc2
    have HRW := Lib.hid hrows
    have hs2 := hb2.size
    clear hrows hc2 HM HDO
    rw [HML.out]
    go_wp2_with fail
    go_loopw [23] (fun v23 wr => ∃ k : Nat, k ≤ ps.length ∧ v23 = .int .i64 k ∧ Hid ((ps.take k).find? (fun q => sameB q (i, j)) = none) ∧ Below w2.heap.size w2 wr) (fun v23 _ => ps.length - (intOf v23).toNat)
    case atStart => exact ⟨0, Nat.zero_le _, rfl, Lib.hid (by simp), Below.refl _ _⟩
    case round =>
      obtain ⟨k, hk, rfl, hf, hb⟩ := hrel
      by_cases hlt : k < ps.length
      · obtain ⟨g, qa, qc, qb, rfl, -, hgl, c, hqx, hqr, -, -⟩ := HRW.out k (by rw [HML.out]; exact hlt)
        rw [HLA.out k hlt] at c hqr
        have c := (hb.cell (p := ⟨g, k, none⟩) hgl).trans c
        have hqr := hqr.below hb (hqx.imp_right fun h => h.2.1)
        have HS := Lib.hid (HFS.out k hlt hf.out)
        have HMK := Lib.hid (HMEM.out k hlt)
        have hki : (k : Int) < (ps.length : Int) := by omega
        have hz := hb.size
        have hqb : qb < wr.heap.size := by
          rcases hqx with h | ⟨-, h3, -⟩
          · have := (hqr.2 0 (by simp)).1
            rw [h] at this
            cases this
          · omega
        clear hqx hf
        generalize ps.getD k (0, 0) = p at c hqr HS HMK
        obtain ⟨p1, p2⟩ := p
        simp only at c hqr
        obtain ⟨rfl, c0⟩ := hqr.2 0 (by simp)
        have c1 := (hqr.2 1 (by simp)).2
        rw [Nat.zero_add] at c0 c1
        simp only [List.getD_cons_zero, List.getD_cons_succ] at c0 c1
        have HLG := Lib.hid (lg_same p1 p2 i j)
        obtain ⟨wi, hwi⟩ : ∃ wi : World, wi = wr := ⟨_, rfl⟩
        subst hwi
        clear hqr
        go_wp2_with fail
        refine wp_region_mix (fun w' => Below wi.heap.size wi w') [6, 9, 10] [0, 1, 2, 3, 4, 5, 7, 8, 6, 9, 10] (by kernel_rfl) (by kernel_rfl) (fun _ _ d _ _ h => by cases d <;> exact h) (by kernel_rfl) rfl (Below.refl _ _).drew ?_
        refine mix_take 0 _ ?_ rfl rfl rfl (some 27) rfl (fun w' hw' => ?hv0) ?_
        case hv0 =>
          go_simp
          with_reducible rfl
        simp only [Act.put, List.setIfInBounds_toArray, List.set_cons_zero, List.set_cons_succ]
        refine mix_take 1 _ ?_ rfl rfl rfl (some 28) rfl (fun w' hw' => ?hv1) ?_
        case hv1 =>
          go_simp
          with_reducible rfl
        simp only [Act.put, List.setIfInBounds_toArray, List.set_cons_zero, List.set_cons_succ]
        refine mix_take 2 _ ?_ rfl rfl rfl (some 29) rfl (fun w' hw' => ?hv2) ?_
        case hv2 =>
          have c0 := (Below.cell (p := ⟨qb, 0, none⟩) hw' hqb).trans c0
          have c1 := (Below.cell (p := ⟨qb, 1, none⟩) hw' hqb).trans c1
          go_simp
          with_reducible rfl
        simp only [Act.put, List.setIfInBounds_toArray, List.set_cons_zero, List.set_cons_succ]
        refine mix_take 3 _ ?_ rfl rfl rfl (some 30) rfl (fun w' hw' => ?hv3) ?_
        case hv3 =>
          go_simp
          with_reducible rfl
        simp only [Act.put, List.setIfInBounds_toArray, List.set_cons_zero, List.set_cons_succ]
        refine mix_take 4 _ ?_ rfl rfl rfl (some 31) rfl (fun w' hw' => ?hv4) ?_
        case hv4 =>
          go_simp
          with_reducible rfl
        simp only [Act.put, List.setIfInBounds_toArray, List.set_cons_zero, List.set_cons_succ]
        refine mix_take 5 _ ?_ rfl rfl rfl (some 32) rfl (fun w' hw' => ?hv5) ?_
        case hv5 =>
          have c0 := (Below.cell (p := ⟨qb, 0, none⟩) hw' hqb).trans c0
          have c1 := (Below.cell (p := ⟨qb, 1, none⟩) hw' hqb).trans c1
          go_simp
          with_reducible rfl
        simp only [Act.put, List.setIfInBounds_toArray, List.set_cons_zero, List.set_cons_succ]
        refine mix_take 7 _ ?_ rfl rfl rfl (some 34) rfl (fun w' hw' => ?hv7) ?_
        case hv7 =>
          go_simp
          with_reducible rfl
        simp only [Act.put, List.setIfInBounds_toArray, List.set_cons_zero, List.set_cons_succ]
        refine mix_take 8 _ ?_ rfl rfl rfl (some 35) rfl (fun w' hw' => ?hv8) ?_
        case hv8 =>
          go_simp
          with_reducible rfl
        simp only [Act.put, List.setIfInBounds_toArray, List.set_cons_zero, List.set_cons_succ]
        refine mix_call 6 _ rfl rfl rfl 74 #[.int .i64 p1, .int .i64 p2] (some 33) rfl ?hr6 ?_
        case hr6 => go_simp
        refine (doInner_any p1 p2 _).mono ?_
        rintro e w3 ⟨rfl, rfl⟩
        have hB3 : Below wi.heap.size wi (wi.drew.alloc (.cells #[.int .i64 (lsI p1 p2), .int .i64 (gtI p1 p2)] 3)) := (Below.refl _ _).drew.alloc (Nat.le_refl _) _
        have hg3 := heap_alloc_new wi.drew (.cells #[.int .i64 (lsI p1 p2), .int .i64 (gtI p1 p2)] 3)
        have hs3 : wi.drew.heap.size < (wi.drew.alloc (.cells #[.int .i64 (lsI p1 p2), .int .i64 (gtI p1 p2)] 3)).heap.size := by simp
        generalize wi.drew.alloc (.cells #[.int .i64 (lsI p1 p2), .int .i64 (gtI p1 p2)] 3) = w4 at hB3 hg3 hs3 ⊢
        refine ⟨_, rfl, hB3, ?_⟩
        simp only [Act.put, List.setIfInBounds_toArray, List.set_cons_zero, List.set_cons_succ]
        refine mix_call 9 _ rfl rfl rfl 74 #[.int .i64 i, .int .i64 j] (some 36) rfl ?hr9 ?_
        case hr9 => go_simp
        refine (doInner_any i j _).mono ?_
        rintro e w5 ⟨rfl, rfl⟩
        have hB5 := hB3.alloc (hB3.size) (.cells #[.int .i64 (lsI i j), .int .i64 (gtI i j)] 3)
        have hg5 := heap_alloc_new w4 (.cells #[.int .i64 (lsI i j), .int .i64 (gtI i j)] 3)
        have hg4 := (Below.heap_alloc w4 (.cells #[.int .i64 (lsI i j), .int .i64 (gtI i j)] 3) _ hs3).trans hg3
        generalize w4.alloc (.cells #[.int .i64 (lsI i j), .int .i64 (gtI i j)] 3) = w6 at hB5 hg5 hg4 ⊢
        refine ⟨_, rfl, hB5, ?_⟩
        simp only [Act.put, List.setIfInBounds_toArray, List.set_cons_zero, List.set_cons_succ]
        refine mix_call 10 _ rfl rfl rfl 73 #[.slice (some ⟨wi.drew.heap.size, 0, none⟩) 2 2, .slice (some ⟨w4.heap.size, 0, none⟩) 2 2] (some 37) rfl ?hr10 ?_
        case hr10 => go_simp
        refine (l1Same2_any _ _ _ _ _ _ _ _ 2 2 w6 (rd2 hg4) (rd2 hg5)).mono ?_
        rintro e w7 ⟨rfl, m, rfl⟩
        rw [HLG.out]
        have hB7 := sub_drewN hB5 m
        refine ⟨_, rfl, hB7, ?_⟩
        simp only [Act.put, List.setIfInBounds_toArray, List.set_cons_zero, List.set_cons_succ]
        refine mix_done ?_
        have hB8 := hb.trans (hB7.mono hz)
        clear hB3 hg3 hs3 hB5 hg5 hg4 hB7 hb c c0 c1
        generalize w6.drewN m = w8 at hB8 ⊢
        cases hsm : sameB (p1, p2) (i, j)
        · have e := Lib.hid (HS.out.2 (by simp only [hsm]))
          clear hsm
          go_wp2_with fail
          go_roundw
          case rel => exact ⟨k + 1, by omega, by go_num, e, hB8⟩
          case measure => simp [intOf]; omega
        · obtain ⟨e1, e2, e3⟩ := HSOME.out _ (HS.out.1 (by simp only [hsm]))
          have H1 := Lib.hid e1
          have HE3 := Lib.hid e3
          clear hsm e1 e3
          go_wp2_with fail
          refine (doInner_any i j _).mono ?_
          rintro e w9 ⟨rfl, rfl⟩
          have hB9 := (bnext hb2 hB8).trans ((balloc (Below.refl w8.heap.size w8) (.cells #[.int .i64 (lsI i j), .int .i64 (gtI i j)] 3)).mono (by have := (bnext hb2 hB8).size; omega))
          have hg9 := heap_alloc_new w8 (.cells #[.int .i64 (lsI i j), .int .i64 (gtI i j)] 3)
          have hs9 : w8.heap.size < (w8.alloc (.cells #[.int .i64 (lsI i j), .int .i64 (gtI i j)] 3)).heap.size := by simp
          have HWK := Lib.hid (HW.out (p1, p2) (w8.alloc (.cells #[.int .i64 (lsI i j), .int .i64 (gtI i j)] 3)) _ _ hB9 HMK.out (rd2 hg9) hs9 e2 HE3.out)
          have hs8 := (bnext hb2 hB8).size
          go_wp2_with fail
          refine HWK.out.mono ?_
          rintro e w10 ⟨v1, v2, rfl, ho1, ho2, hdj, hb10⟩
          go_wp2_with fail
          go_returns
          exact gives2_walk H1.out ho1 ho2 hdj (by omega) (bnext hB9 hb10)
      · have e : Hid (ps.find? (fun q => sameB q (i, j)) = none) := by
          have := hf.out
          rwa [show k = ps.length by omega, List.take_length] at this
        have H1 := Lib.hid (HNONE.out e.out)
        go_wp2_with fail
        go_returns
        exact gives2_none H1.out (bnext hb2 hb)
end Go.Proofs.Ytgpikaolgalpbaa
