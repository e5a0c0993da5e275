import Derived.Test.YtgloelhpnhofgaaWw
import Derived.Test.YtgloelhpnhofgaaZj
namespace Go.Proofs.Ytgloelhpnhofgaa
open Go.RowKit
set_option maxRecDepth 4000
theorem rd2 {w : World} {g : Nat} {x y : Int} {ty : TypeId} (h : w.heap[g]? = some (.cells #[.int .i64 x, .int .i64 y] ty (0, 0))) : Rd w (some ⟨g, 0, none⟩) g 0 [x, y] :=
  ⟨by simp [maxLen], fun j hj => by
    match j, hj with
    | 0, _ => exact ⟨rfl, blk_cell h 0 _ rfl⟩
    | 1, _ => exact ⟨rfl, blk_cell h 1 _ rfl⟩
    | j + 2, hj => exact absurd hj (by simp)⟩
theorem lg_same (a b c d : Int) : (lsI a b == lsI c d && gtI a b == gtI c d) = sameB (a, b) (c, d) := by
  rw [same_inner, inner_eq, inner_eq, Bool.eq_iff_iff]
  simp only [Bool.and_eq_true, beq_iff_eq, decide_eq_true_eq, Prod.mk.injEq]
theorem inner_inner (p : Int × Int) (h : p.1 ≠ p.2) : inner (inner p) = inner p := inner_sorted (inner_lt h)
/-- Whether two points are a door of the border. -/
def okW (n : Int) (xs : List Int) (i j : Int) : Bool := labB n xs && ((bds n.toNat xs).find? (fun d => sameB d (i, j))).isSome
theorem bds_lst (n : Nat) (xs : List Int) : outp xs (bps n (3 * n)) = (bds n xs).map lst := rfl
set_option maxHeartbeats 1600000 in
theorem doOutside_any (n : Int) (xs : List Int) (i j : Int) (a : Option Addr) (b len cap : Nat) (w : World) (hn : xs.length = len) (h : Rd w a b 0 xs) (hb0 : len = 0 ∨ b < w.heap.size) :
    Calls Try.prog 48 #[.int .i64 n, .slice a len cap, .int .i64 i, .int .i64 j] w fun e w' => e = .returned (.bool (okW n xs i j)) ∧ Below w.heap.size w w' := by
  have HM := Lib.hid (meLabels_any n xs a b 0 len cap w hn h)
  cases hL : labB n xs
  · have HP : Hid (okW n xs i j = false) := Lib.hid (by simp [okW, hL])
    rw [hL] at HM
    clear hL h
    go_enter Try.func48, Try.ntmps48
    go_wp2_with fail
    refine HM.out.mono ?_
    rintro e w1 ⟨rfl, rfl⟩
    go_wp2_with fail
    go_ret
    exact ⟨ret_f HP.out rfl, Below.refl _ _⟩
  · obtain ⟨n, rfl⟩ := labB_nat hL
    rw [hL] at HM
    have HP : Hid (okW n xs i j = ((bds n xs).find? (fun d => sameB d (i, j))).isSome) := Lib.hid (by simp [okW, hL])
    have HD := Lib.hid (doBorder_any n xs a b len cap w hn h hb0 hL)
    have HFS := Lib.hid (fun k hk h => find_step (0, 0) (bds n xs) (fun d => sameB d (i, j)) k hk h)
    have hbl := bds_len n xs
    obtain ⟨h1, h2, -⟩ := labB_yes hL
    have HBL := Lib.hid (bds_lst n xs)
    have HLA := Lib.hid (lst_at (bds n xs))
    have HML : Hid (((bds n xs).map lst).length = (bds n xs).length) := Lib.hid (by simp)
    clear hL h
    generalize bds n xs = ps at HP HFS hbl HBL HLA HML
    go_enter Try.func48, Try.ntmps48
    go_wp2_with fail
    refine HM.out.mono ?_
    rintro e w1 ⟨rfl, rfl⟩
    go_wp2_with fail
    refine HD.out.mono ?_
    rintro e w2 ⟨v, rfl, hc2, hb2⟩
    rw [HBL.out] at hc2
    obtain ⟨sa, sm, sc, rfl⟩ := cells_shape hc2
    obtain ⟨rfl, -, hrows⟩ := cells_row hc2
    have HRW := Lib.hid hrows
    clear hrows hc2 HM HD
    rw [HML.out]
    go_wp2_with fail
    go_loopw [19] (fun v19 wr => ∃ k : Nat, k ≤ ps.length ∧ v19 = .int .i64 k ∧ Hid ((ps.take k).find? (fun d => sameB d (i, j)) = none) ∧ Below w2.heap.size w2 wr) (fun v19 _ => ps.length - (intOf v19).toNat)
    case atStart => exact ⟨0, Nat.zero_le _, rfl, Lib.hid (by simp), Below.refl _ _⟩
    case round =>
      obtain ⟨k, hk, rfl, hf, hb⟩ := hrel
      by_cases hlt : k < ps.length
      · obtain ⟨g, qa, qc, qb, rfl, -, hgl, c, hqx, hqr, -, -⟩ := HRW.out k (by rw [HML.out]; exact hlt)
        rw [HLA.out k hlt] at c hqr
        have c := (hb.cell (p := ⟨g, k, none⟩) hgl).trans c
        have hqr := hqr.below hb (hqx.imp_right fun h => h.2.1)
        have HS := Lib.hid (HFS.out k hlt hf.out)
        have hki : (k : Int) < (ps.length : Int) := by omega
        have hz := hb.size
        have hqb : qb < wr.heap.size := by
          rcases hqx with h | ⟨-, h3, -⟩
          · have := (hqr.2 0 (by simp)).1
            rw [h] at this
            cases this
          · omega
        clear hqx hf
        generalize ps.getD k (0, 0) = p at c hqr HS
        obtain ⟨p1, p2⟩ := p
        simp only at c hqr
        obtain ⟨rfl, c0⟩ := hqr.2 0 (by simp)
        have c1 := (hqr.2 1 (by simp)).2
        rw [Nat.zero_add] at c0 c1
        simp only [List.getD_cons_zero, List.getD_cons_succ] at c0 c1
        have HLG := Lib.hid (lg_same p1 p2 i j)
        obtain ⟨wi, hwi⟩ : ∃ wi : World, wi = wr := ⟨_, rfl⟩
        subst hwi
        clear hqr
        go_wp2_with fail
        refine wp_region_mix (fun w' => Below wi.heap.size wi w') [6, 9, 10] [0, 1, 2, 3, 4, 5, 7, 8, 6, 9, 10] (by kernel_rfl) (by kernel_rfl) (fun _ _ d _ _ h => by cases d <;> exact h) (by kernel_rfl) rfl (Below.refl _ _).drew ?_
        refine mix_take 0 _ ?_ rfl rfl rfl (some 23) rfl (fun w' hw' => ?hv0) ?_
        case hv0 =>
          go_simp
          with_reducible rfl
        simp only [Act.put, List.setIfInBounds_toArray, List.set_cons_zero, List.set_cons_succ]
        refine mix_take 1 _ ?_ rfl rfl rfl (some 24) rfl (fun w' hw' => ?hv1) ?_
        case hv1 =>
          go_simp
          with_reducible rfl
        simp only [Act.put, List.setIfInBounds_toArray, List.set_cons_zero, List.set_cons_succ]
        refine mix_take 2 _ ?_ rfl rfl rfl (some 25) rfl (fun w' hw' => ?hv2) ?_
        case hv2 =>
          have c0 := (Below.cell (p := ⟨qb, 0, none⟩) hw' hqb).trans c0
          have c1 := (Below.cell (p := ⟨qb, 1, none⟩) hw' hqb).trans c1
          go_simp
          with_reducible rfl
        simp only [Act.put, List.setIfInBounds_toArray, List.set_cons_zero, List.set_cons_succ]
        refine mix_take 3 _ ?_ rfl rfl rfl (some 26) rfl (fun w' hw' => ?hv3) ?_
        case hv3 =>
          go_simp
          with_reducible rfl
        simp only [Act.put, List.setIfInBounds_toArray, List.set_cons_zero, List.set_cons_succ]
        refine mix_take 4 _ ?_ rfl rfl rfl (some 27) rfl (fun w' hw' => ?hv4) ?_
        case hv4 =>
          go_simp
          with_reducible rfl
        simp only [Act.put, List.setIfInBounds_toArray, List.set_cons_zero, List.set_cons_succ]
        refine mix_take 5 _ ?_ rfl rfl rfl (some 28) rfl (fun w' hw' => ?hv5) ?_
        case hv5 =>
          have c0 := (Below.cell (p := ⟨qb, 0, none⟩) hw' hqb).trans c0
          have c1 := (Below.cell (p := ⟨qb, 1, none⟩) hw' hqb).trans c1
          go_simp
          with_reducible rfl
        simp only [Act.put, List.setIfInBounds_toArray, List.set_cons_zero, List.set_cons_succ]
        refine mix_take 7 _ ?_ rfl rfl rfl (some 30) rfl (fun w' hw' => ?hv7) ?_
        case hv7 =>
          go_simp
          with_reducible rfl
        simp only [Act.put, List.setIfInBounds_toArray, List.set_cons_zero, List.set_cons_succ]
        refine mix_take 8 _ ?_ rfl rfl rfl (some 31) rfl (fun w' hw' => ?hv8) ?_
        case hv8 =>
          go_simp
          with_reducible rfl
        simp only [Act.put, List.setIfInBounds_toArray, List.set_cons_zero, List.set_cons_succ]
        refine mix_call 6 _ rfl rfl rfl 56 #[.int .i64 p1, .int .i64 p2] (some 29) rfl ?hr6 ?_
        case hr6 => go_simp
        refine (doInner_any p1 p2 _).mono ?_
        rintro e w3 ⟨rfl, rfl⟩
        have hB3 : Below wi.heap.size wi (wi.drew.alloc (.cells #[.int .i64 (lsI p1 p2), .int .i64 (gtI p1 p2)] 3)) := (Below.refl _ _).drew.alloc (Nat.le_refl _) _
        have hg3 := heap_alloc_new wi.drew (.cells #[.int .i64 (lsI p1 p2), .int .i64 (gtI p1 p2)] 3)
        have hs3 : wi.drew.heap.size < (wi.drew.alloc (.cells #[.int .i64 (lsI p1 p2), .int .i64 (gtI p1 p2)] 3)).heap.size := by simp
        generalize wi.drew.alloc (.cells #[.int .i64 (lsI p1 p2), .int .i64 (gtI p1 p2)] 3) = w4 at hB3 hg3 hs3 ⊢
        refine ⟨_, rfl, hB3, ?_⟩
        simp only [Act.put, List.setIfInBounds_toArray, List.set_cons_zero, List.set_cons_succ]
        refine mix_call 9 _ rfl rfl rfl 56 #[.int .i64 i, .int .i64 j] (some 32) rfl ?hr9 ?_
        case hr9 => go_simp
        refine (doInner_any i j _).mono ?_
        rintro e w5 ⟨rfl, rfl⟩
        have hB5 := hB3.alloc (hB3.size) (.cells #[.int .i64 (lsI i j), .int .i64 (gtI i j)] 3)
        have hg5 := heap_alloc_new w4 (.cells #[.int .i64 (lsI i j), .int .i64 (gtI i j)] 3)
        have hg4 := (Below.heap_alloc w4 (.cells #[.int .i64 (lsI i j), .int .i64 (gtI i j)] 3) _ hs3).trans hg3
        generalize w4.alloc (.cells #[.int .i64 (lsI i j), .int .i64 (gtI i j)] 3) = w6 at hB5 hg5 hg4 ⊢
        refine ⟨_, rfl, hB5, ?_⟩
        simp only [Act.put, List.setIfInBounds_toArray, List.set_cons_zero, List.set_cons_succ]
        refine mix_call 10 _ rfl rfl rfl 55 #[.slice (some ⟨wi.drew.heap.size, 0, none⟩) 2 2, .slice (some ⟨w4.heap.size, 0, none⟩) 2 2] (some 33) rfl ?hr10 ?_
        case hr10 => go_simp
        refine (l1Same2_any _ _ _ _ _ _ _ _ 2 2 w6 (rd2 hg4) (rd2 hg5)).mono ?_
        rintro e w7 ⟨rfl, m, rfl⟩
        rw [HLG.out]
        have hB7 := below_drewN hB5 m
        refine ⟨_, rfl, hB7, ?_⟩
        simp only [Act.put, List.setIfInBounds_toArray, List.set_cons_zero, List.set_cons_succ]
        refine mix_done ?_
        have hB8 := hb.trans (hB7.mono hz)
        clear hB3 hg3 hs3 hB5 hg5 hg4 hB7 hb c c0 c1
        generalize w6.drewN m = w8 at hB8 ⊢
        cases hsm : sameB (p1, p2) (i, j)
        · have e := Lib.hid (HS.out.2 (by simp only [hsm]))
          clear hsm
          go_wp2_with fail
          go_roundw
          case rel => exact ⟨k + 1, by omega, by go_num, e, hB8⟩
          case measure => simp [intOf]; omega
        · have e := Lib.hid (HS.out.1 (by simp only [hsm]))
          clear hsm
          go_wp2_with fail
          go_ret
          exact ⟨ret_b (by rw [HP.out, e.out]; rfl) rfl, bnext hb2 hB8⟩
      · have e : Hid (ps.find? (fun d => sameB d (i, j)) = none) := by
          have := hf.out
          rwa [show k = ps.length by omega, List.take_length] at this
        go_wp2_with fail
        go_ret
        exact ⟨ret_f (by rw [HP.out, e.out]; rfl) rfl, bnext hb2 hb⟩
set_option maxHeartbeats 800000 in
theorem doFrom_any (n : Nat) (xs : List Int) (i j : Int) (a : Option Addr) (b len cap : Nat) (w : World) (hL : labB n xs = true) (hn : xs.length = len) (h : Rd w a b 0 xs) (hb0 : len = 0 ∨ b < w.heap.size) (hgo : Goes xs n (-1) (inner (i, j))) (hij : i ≠ j) :
    Calls Try.prog 49 #[.int .i64 n, .slice a len cap, .int .i64 i, .int .i64 j] w (DWalked w (wfrom xs n (-1) (inner (i, j))).1 (wfrom xs n (-1) (inner (i, j))).2.1) := by
  obtain ⟨h1, h2, -⟩ := labB_yes hL
  obtain ⟨s0, L, R, hLR, hat⟩ := goes_at hgo
  have hii := inner_inner (i, j) hij
  have hlt : lsI i j < gtI i j := inner_lt (p := (i, j)) hij
  rw [hLR]
  rw [hii] at hat
  have hcell : inner (lsI i j, gtI i j) = inner (i, j) := hii
  have HL := Lib.hid hL
  have HRD := Lib.hid (fun w' (hb : Below w.heap.size w w') => h.later hn hb0 hb)
  have HRB := Lib.hid (fun w' (hb : Below w.heap.size w w') => lt_later hb0 hb)
  have HN := Lib.hid hn
  have HAT : Hid (At xs n s0 L R [] (beyI (acrossI n (-1) (inner (i, j)))) (lsI i j, gtI i j)) := Lib.hid hat
  have HE := Lib.hid (ci_eq n (by omega) h1)
  have HCI := Lib.hid hcell
  clear hL h hat hLR hgo hcell hii hn hb0
  go_enter Try.func49, Try.ntmps49
  go_wp2_with fail
  refine (meCells_any n h1 h2 _).mono ?_
  rintro e w2 ⟨v, rfl, hc, hb2⟩
  rw [← HE.out] at hc
  obtain ⟨sa, sm, sc, rfl⟩ := cells_shape hc
  go_wp2_with fail
  refine (doInner_any i j _).mono ?_
  rintro e w3 ⟨rfl, rfl⟩
  go_wp2_with fail
  refine (doInner_any i j _).mono ?_
  rintro e w5 ⟨rfl, rfl⟩
  have hB5 : Below w2.heap.size w2 ((w2.alloc (.cells #[.int .i64 (lsI i j), .int .i64 (gtI i j)] 3)).alloc (.cells #[.int .i64 (lsI i j), .int .i64 (gtI i j)] 3)) := balloc (balloc (Below.refl _ _) _) _
  have hg5 := heap_alloc_new (w2.alloc (.cells #[.int .i64 (lsI i j), .int .i64 (gtI i j)] 3)) (.cells #[.int .i64 (lsI i j), .int .i64 (gtI i j)] 3)
  have hg4 := (Below.heap_alloc (w2.alloc (.cells #[.int .i64 (lsI i j), .int .i64 (gtI i j)] 3)) (.cells #[.int .i64 (lsI i j), .int .i64 (gtI i j)] 3) w2.heap.size (by simp)).trans (heap_alloc_new w2 _)
  have hs5 : ((w2.alloc (.cells #[.int .i64 (lsI i j), .int .i64 (gtI i j)] 3)).alloc (.cells #[.int .i64 (lsI i j), .int .i64 (gtI i j)] 3)).heap.size = w2.heap.size + 2 := by simp
  have hs4 : (w2.alloc (.cells #[.int .i64 (lsI i j), .int .i64 (gtI i j)] 3)).heap.size = w2.heap.size + 1 := by simp
  rw [hs4] at hg5
  go_wp2_with fail
  (try rw [hs4])
  generalize (w2.alloc (.cells #[.int .i64 (lsI i j), .int .i64 (gtI i j)] 3)).alloc (.cells #[.int .i64 (lsI i j), .int .i64 (gtI i j)] 3) = w6 at hB5 hg5 hg4 hs5 ⊢
  refine (doNextT_any n (lsI i j) (gtI i j) (-1) sa _ w.heap.size _ _ sc 2 w6 h2 (cells_now hc hB5) (rd2 hg5) (by omega) (by omega)).mono ?_
  rintro e w7 ⟨rfl, hb7⟩
  rw [HCI.out]
  have hB7 := bnext hB5 hb7
  have hB27 := bnext hb2 hB7
  have hg7 := (hb7.block w2.heap.size (by omega)).trans hg4
  have hs7 := hb7.size
  have hs2 := hb2.size
  have HC7 := cells_now hc hB7
  clear hg5 hg4 hs4 hB5 hb7 hc hb2
  go_wp2_with fail
  refine (doWalk_any n xs w.heap.size sa _ sc a b len cap _ w2.heap.size 2 _ _ _ s0 L R w7 HL.out HC7 HN.out (HRD.out w7 hB27) (HRB.out w7 hB27) (rd2 hg7) (by omega) hlt HAT.out).mono ?_
  rintro e w8 ⟨v, pd, bd, cd, rfl, ho8, hr8, hbd8, hb8⟩
  go_wp2_with fail
  go_ret2
  exact ⟨v, pd, bd, cd, rfl, own_base ho8 (by have := hB27.size; omega), hr8, hbd8, bnext hB27 hb8⟩
end Go.Proofs.Ytgloelhpnhofgaa
