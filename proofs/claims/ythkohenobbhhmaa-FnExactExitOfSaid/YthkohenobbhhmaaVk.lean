import Derived.Test.YthkohenobbhhmaaVj
namespace Go.Proofs.Ythkohenobbhhmaa
open Go.RowKit
set_option maxRecDepth 4000
theorem fp_eq (o : Option (Int × Int)) : ∃ a b : Int, fp o = .tuple #[.agg #[.int .i64 a, .int .i64 b], .bool o.isSome] ∧ (o = none ∧ a = 0 ∧ b = 0 ∨ o = some (a, b)) := by
  cases o with
  | none => exact ⟨0, 0, rfl, .inl ⟨rfl, rfl, rfl⟩⟩
  | some d => exact ⟨d.1, d.2, rfl, .inr rfl⟩
set_option maxHeartbeats 1600000 in
theorem exit_any (n : Nat) (xs : List Int) (base : Nat) (r : Array Value) (pa : Option Addr) (pm pc : Nat) (u v : Int) (f : Bool) (w : World) (hL : labB n xs = true) (hrv : RoomsV w base n xs r) :
    Calls Try.prog 39 #[.agg (wkA r (.slice pa pm pc) u v f)] w fun e w' => e = .returned (fp (if f then none else (bds n xs).find? (fun d => sameB d (u, v)))) ∧ Below w.heap.size w w' := by
  obtain ⟨hsz, hone, -⟩ := rooms_row hL hrv
  have hB0 := balloc (balloc (Below.refl w.heap.size w) (.cells (wkA r (.slice pa pm pc) u v f) 56)) (.cells #[.int .i64 0, .int .i64 0] 54)
  have hg1 : ((w.alloc (.cells (wkA r (.slice pa pm pc) u v f) 56)).alloc (.cells #[.int .i64 0, .int .i64 0] 54)).heap[w.heap.size]? = some (.cells (wkA r (.slice pa pm pc) u v f) 56 (0, 0)) := by
    rw [Below.heap_alloc _ _ _ (by simp)]
    exact heap_alloc_new w _
  have hz1 : ((w.alloc (.cells (wkA r (.slice pa pm pc) u v f) 56)).alloc (.cells #[.int .i64 0, .int .i64 0] 54)).heap[w.heap.size + 1]? = some (.cells #[.int .i64 0, .int .i64 0] 54 (0, 0)) := by
    have e := heap_alloc_new (w.alloc (.cells (wkA r (.slice pa pm pc) u v f) 56)) (.cells #[.int .i64 0, .int .i64 0] 54)
    rwa [World.size_alloc] at e
  have hs1 : ((w.alloc (.cells (wkA r (.slice pa pm pc) u v f) 56)).alloc (.cells #[.int .i64 0, .int .i64 0] 54)).heap.size = w.heap.size + 2 := by simp
  have q51 := blk_cell hg1 51 _ (wk_at hsz _ _ _ _ 3)
  have q49 := blk_cell hg1 49 _ (wk_at hsz _ _ _ _ 1)
  have q50 := blk_cell hg1 50 _ (wk_at hsz _ _ _ _ 2)
  have HBD := Lib.hid (fun w' (hb : Below w.heap.size w w') => borderDoor_any n xs base r u v w' hL (rooms_now hrv hb))
  clear hL hrv
  cases f
  · rw [if_neg (by simp)]
    generalize (bds n xs).find? (fun d => sameB d (u, v)) = O at HBD ⊢
    obtain ⟨a, b, hfp, -⟩ := fp_eq O
    have HFP := Lib.hid hfp
    clear hfp
    go_enter Try.func39, Try.ntmps39
    go_wp2_with ((with_reducible refine load_win blkRooms ?_ _ rfl w.heap.size 0 ?_ (wkA r (.slice pa pm pc) u v false) r hg1 (wk_rooms hsz _ _ _ _) hsz ?_); exact rfl; exact rfl; simp only [Act.put, List.setIfInBounds_toArray, List.set_cons_zero, List.set_cons_succ])
    generalize ((w.alloc (.cells (wkA r (.slice pa pm pc) u v false) 56)).alloc (.cells #[.int .i64 0, .int .i64 0] 54)) = w1 at hB0 hg1 hz1 hs1 q49 q50 q51 ⊢
    refine (HBD.out w1 hB0).mono ?_
    rintro e w2 ⟨rfl, hb2⟩
    rw [HFP.out]
    have hz2 := (hb2.block (w.heap.size + 1) (by omega)).trans hz1
    have hB2 := bnext hB0 hb2
    clear hb2 hz1 hg1 q49 q50 q51 hB0
    go_wp2_with ((with_reducible refine store_blk blkPair rfl _ _ rfl (w.heap.size + 1) #[.int .i64 a, .int .i64 b] #[.int .i64 0, .int .i64 0] ?_ ?_ hz2 (pair_size _ _) (pair_size _ _) (pair_one _ _) w.heap.size (by omega) ?_); exact rfl; exact rfl; intro w3 hg3 hb3 hk3 hs3)
    exact bodyPost_ret (results_blk blkPair rfl _ _ (w.heap.size + 1) _ (.bool O.isSome) rfl rfl hg3 rfl) rfl ⟨by rw [HFP.out], hB2.trans hb3⟩
  · rw [if_pos rfl]
    clear HBD q49 q50
    go_enter Try.func39, Try.ntmps39
    go_wp2_with ((with_reducible refine store_blk blkPair rfl _ _ rfl (w.heap.size + 1) #[.int .i64 0, .int .i64 0] #[.int .i64 0, .int .i64 0] ?_ ?_ hz1 (pair_size _ _) (pair_size _ _) (pair_one _ _) w.heap.size (by omega) ?_); exact rfl; exact rfl; intro w3 hg3 hb3 hk3 hs3)
    exact bodyPost_ret (results_blk blkPair rfl _ _ (w.heap.size + 1) _ (.bool false) rfl rfl hg3 rfl) rfl ⟨rfl, hB0.trans hb3⟩
theorem gives_nil' {w w' : World} {et : TypeId} {L : List Int} {b : Bool} (hL : L = []) (hb : b = false) (hB : Below w.heap.size w w') : Gives w et L b (.returned (.tuple #[.slice none 0 0, .bool false])) w' := by
  subst hL hb
  exact gives_none hB
set_option maxHeartbeats 1600000 in
theorem implExitOf (n : Int) (xs : List Int) (i j : Int) (a : Option Addr) (b len cap : Nat) (w : World) (hn : xs.length = len) (hsm : len ≤ 1048576) (h : Rd w a b 0 xs) (hb0 : len = 0 ∨ b < w.heap.size) :
    Calls Try.prog 18 #[.int .i64 n, .slice a len cap, .int .i64 i, .int .i64 j] w (Gives w 54 (valExit n xs i j) (okExit n xs i j)) := by
  cases hok : okW n xs i j
  · have H1 : Hid (valExit n xs i j = [] ∧ okExit n xs i j = false) := Lib.hid (by simp [valExit, okExit, hok])
    have HW := Lib.hid (walkFromBorder_no n xs i j a b len cap w hn hsm h hb0 hok)
    clear hok h hb0
    go_enter Try.func18, Try.ntmps18
    go_wp2_with fail
    refine HW.out.mono ?_
    rintro e w1 ⟨rfl, hb1⟩
    go_wp2_with (first
      | (with_reducible refine alloc_blk zeroW run_alloc_wk rfl rfl ?_)
      | ((with_reducible refine store_blk blkWalk rfl _ _ rfl w1.heap.size zeroW zeroW ?_ ?_ ?_ zeroW_size zeroW_size zeroW_one w1.heap.size (Nat.le_refl _) ?_); exact rfl; exact rfl; exact heap_alloc_new _ _; intro w3 hg3 hb3 hk3 hs3; have hB3 := bnext hb1 ((balloc (Below.refl w1.heap.size w1) (.cells zeroW 56)).trans hb3)))
    go_ret2
    exact gives_nil' H1.out.1 H1.out.2 hB3
  · have hok2 := hok
    obtain ⟨n, rfl, hL, -⟩ := okW_yes hok
    have HV : Hid (valExit n xs i j = exL (exO n xs i j)) := Lib.hid (by simp [valExit, hok2])
    have HK : Hid (okExit n xs i j = (exO n xs i j).isSome) := Lib.hid (by simp [okExit, hok2])
    have HX : Hid (exO n xs i j = if (wfrom xs n (-1) (inner (i, j))).2.2 then none else (bds n xs).find? (exF (wfrom xs n (-1) (inner (i, j))).2.1)) := Lib.hid rfl
    have HW := Lib.hid (walkFromBorder_yes n xs i j a b len cap w hn hsm h hb0 hok)
    have HL := Lib.hid hL
    clear hok hok2 h hL hb0
    generalize exO n xs i j = O at HV HK HX
    generalize (wfrom xs n (-1) (inner (i, j))) = W at HW HX
    obtain ⟨L, D, f⟩ := W
    simp only at HW HX
    go_enter Try.func18, Try.ntmps18
    go_wp2_with fail
    refine HW.out.mono ?_
    rintro e w1 ⟨r, pv, u, v, rfl, hrv, ho1, hin, hb1⟩
    obtain ⟨hsz, hone, -⟩ := rooms_row HL.out hrv
    have ho1 := own_num ho1 (ints_len L).symm
    obtain ⟨-, pa, pc, pb, rfl, -⟩ := own_shape ho1
    have hwz : Hid ((wkA r (.slice pa (ints L).length pc) u v f).size = 52 ∧ (wkA r (.slice pa (ints L).length pc) u v f).all (·.oneCell') = true) := Lib.hid ⟨wkA_size _ _ _ _ _ hsz, wkA_one _ _ _ _ _ _ _ hone⟩
    have HO : Hid (O = if f then none else (bds n xs).find? (fun d => sameB d (u, v))) := Lib.hid (by
      rw [HX.out]
      cases f
      · rw [if_neg (by simp), if_neg (by simp)]
        refine find_congr _ fun d _ => ?_
        rw [same_inner, exF, hin]
      · rfl)
    clear hone ho1 hin
    go_wp2_with (first
      | (with_reducible refine alloc_blk zeroW run_alloc_wk rfl rfl ?_)
      | ((with_reducible refine store_blk blkWalk rfl _ _ rfl w1.heap.size (wkA r (.slice pa (ints L).length pc) u v f) zeroW ?_ ?_ ?_ zeroW_size hwz.out.1 hwz.out.2 w1.heap.size (Nat.le_refl _) ?_); exact rfl; exact rfl; exact heap_alloc_new _ _; intro w3 hg3 hb3 hk3 hs3; have hB13 := ((balloc (Below.refl w1.heap.size w1) (.cells zeroW 56)).trans hb3))
      | ((with_reducible refine load_blk blkWalk ?_ _ rfl w1.heap.size ?_ _ hg3 hwz.out.1 ?_); exact rfl; exact rfl; simp only [Act.put, List.setIfInBounds_toArray, List.set_cons_zero, List.set_cons_succ]))
    have hB3 := bnext hb1 hB13
    refine (exit_any n xs _ r pa _ pc u v f w3 HL.out (rooms_now hrv hB13)).mono ?_
    rw [← HO.out]
    rintro e w4 ⟨rfl, hb4⟩
    have hB4 := bnext hB3 hb4
    clear hrv hb1 hg3 hb3 hk3 hs3 hB13 hb4 hB3
    obtain ⟨x, y, hfp, hO⟩ := fp_eq O
    rw [hfp]
    clear hfp
    rcases hO with ⟨rfl, rfl, rfl⟩ | rfl
    · rw [show (none : Option (Int × Int)).isSome = false from rfl]
      go_wp2_with fail
      go_ret2
      exact gives_nil' (by rw [HV.out]; rfl) (by rw [HK.out]; rfl) (balloc hB4 _)
    · rw [show (some (x, y) : Option (Int × Int)).isSome = true from rfl]
      go_wp2_with fail
      go_ret2
      have HLL : valExit n xs i j = [x, y] := by rw [HV.out]; rfl
      rw [HLL, show okExit n xs i j = true by rw [HK.out]; rfl]
      refine ⟨_, rfl, own_block (xs := [x, y]) (cur := #[.int .i64 x, .int .i64 y]) hB4.size (heap_alloc_new w4 _) rfl rfl (by simp [maxLen]), balloc hB4 _⟩
set_option maxHeartbeats 1600000 in
theorem lawOf_ExitOf (n : Int) (a : Option Addr) (len cap : Nat) (zs : List Int) (i j : Int) (w : World) (hrow : IsRow w a len cap zs) (L : List Int) (ok : Bool) (hLen : L.length ≤ 1000)
    (hs : ∀ a' b' cap' w', len ≤ 1048576 → Rd w' a' b' 0 (zs.take len) → (len = 0 ∨ b' < w'.heap.size) → Calls Try.prog 17 #[.int .i64 n, .slice a' len cap', .int .i64 i, .int .i64 j] w' (Gives w' 3 L ok))
    (hi : ∀ a' b' cap' w', len ≤ 1048576 → Rd w' a' b' 0 (zs.take len) → (len = 0 ∨ b' < w'.heap.size) → Calls Try.prog 18 #[.int .i64 n, .slice a' len cap', .int .i64 i, .int .i64 j] w' (Gives w' 54 L ok)) :
    Calls Try.prog 4 #[.int .i64 n, .slice a len cap, .int .i64 i, .int .i64 j] w fun e w' => e = .returned (.bool true) ∧ Below w.heap.size w w' := by
  obtain ⟨hlen, b, off, hr, hbb⟩ := isRow_rd hrow
  generalize zs.take len = xs at hlen hr hs hi
  have hm := hr.1
  unfold maxLen at hm
  rw [hlen] at hm
  have HRD : Hid (∀ W, Below w.heap.size w W → Rd W a b off xs ∧ (len = 0 ∨ b < W.heap.size)) := by
    intro W hB
    refine ⟨⟨hr.1, fun j hj => ⟨(hr.2 j hj).1, ?_⟩⟩, ?_⟩
    · rcases hbb with h | h
      · rw [hlen, h] at hj; exact absurd hj (Nat.not_lt_zero _)
      · exact (hB.cell h).trans (hr.2 j hj).2
    · rcases hbb with h | h
      · exact .inl h
      · exact .inr (by have := hB.size; omega)
  have HL := Lib.hid hlen
  have HS := Lib.hid hs
  have HI := Lib.hid hi
  have HB : Hid (∀ (w0 : World) a0 b0 cap0, (a0 = none ∨ a0 = some (⟨b0, 0, none⟩ : Addr)) → Rd w0 a0 b0 0 xs → (∀ k, (Value.slice a0 xs.length cap0).ownBlock = some k → k < w0.heap.size) → len = 0 ∨ b0 < w0.heap.size) := by
    intro w0 a0 b0 cap0 hx hrd hlt
    rcases hx with h | h
    · left
      rcases Nat.eq_zero_or_pos xs.length with h0 | h0
      · rw [← hlen]; exact h0
      · have := (hrd.2 0 h0).1; rw [h] at this; cases this
    · exact .inr (hlt b0 (by rw [h]; rfl))
  clear hr hrow hlen hs hi
  by_cases hbig : (1048576 : Int) < (len : Int)
  · go_enter Try.func4, Try.ntmps4
    go_wp2_with fail
    go_ret
    exact ⟨rfl, Below.refl _ _⟩
  · have hsm : len ≤ 1048576 := by omega
    have hok : (ok != ok) = false := by simp
    go_enter Try.func4, Try.ntmps4
    go_wp2_with fail
    refine (toIntS_any xs a b off len cap w HL.out (HRD.out _ (Below.refl _ _)).1 (HRD.out _ (Below.refl _ _)).2 hsm).mono ?_
    rintro e w1 ⟨v1, rfl, ho1, hb1⟩
    obtain ⟨-, a1, c1, b1, rfl, hx1, hr1⟩ := own_shape ho1
    have hbl1 := HB.out w1 a1 b1 c1 hx1 hr1 (fun k hk => own_lt ho1 k hk)
    go_wp2_with fail
    rw [HL.out]
    refine (HS.out a1 b1 c1 w1 hsm hr1 hbl1).mono ?_
    rintro e w2 ⟨v0, rfl, ho0, hb2⟩
    obtain ⟨-, a0, c0, b0, rfl, hx0, hr0⟩ := own_shape ho0
    have hlt0 := own_lt ho0
    have hB2 := bnext hb1 hb2
    clear ho1 hr1 hb1 hb2 hbl1 hr0
    go_wp2_with fail
    refine (toIntS_any xs a b off len cap w2 HL.out (HRD.out _ hB2).1 (HRD.out _ hB2).2 hsm).mono ?_
    rintro e w3 ⟨v3, rfl, ho3, hb3⟩
    obtain ⟨-, a3, c3, b3, rfl, hx3, hr3⟩ := own_shape ho3
    have hbl3 := HB.out w3 a3 b3 c3 hx3 hr3 (fun k hk => own_lt ho3 k hk)
    have ho0_3 := own_now ho0 hb3
    have hB3 := bnext hB2 hb3
    have hlt3 := own_lt ho3
    clear ho0
    go_wp2_with fail
    rw [HL.out]
    refine (HI.out a3 b3 c3 w3 hsm hr3 hbl3).mono ?_
    rintro e w4 ⟨vg, rfl, hog, hb4⟩
    obtain ⟨-, ag, cg, bg, rfl, hxg, hrg⟩ := own_shape hog
    have ho0_4 := own_now ho0_3 hb4
    have ho3_4 := own_now ho3 hb4
    have hB4 := bnext hB3 hb4
    have hltg := own_lt hog
    obtain ⟨-, a0', c0', b0', hv, -, hr0_4⟩ := own_shape ho0_4
    simp only [Value.slice.injEq] at hv
    obtain ⟨rfl, -, rfl⟩ := hv
    clear ho3 hr3 hbl3 ho0_3
    go_wp2_with fail
    refine (eqIntS_same L ag a0 bg 0 b0' 0 _ _ cg c0 w4 rfl rfl hrg hr0_4).mono ?_
    rintro e w5 ⟨rfl, hs5⟩
    have hog5 := own_same hog hs5
    have ho0_5 := own_same ho0_4 hs5
    have ho3_5 := own_same ho3_4 hs5
    have hB5 := below_same hB4 hs5
    have hsz5 : w4.heap.size ≤ w5.heap.size := (hs5 0).size
    clear hog ho0_4 ho3_4 hB4 hrg hr0_4
    go_wp2_with fail
    refine (toIntS_any xs a b off len cap w5 HL.out (HRD.out _ hB5).1 (HRD.out _ hB5).2 hsm).mono ?_
    rintro e w6 ⟨v6, rfl, ho6, hb6⟩
    obtain ⟨-, a6, c6, b6, rfl, hx6, hr6⟩ := own_shape ho6
    have hog6 := own_now hog5 hb6
    have ho0_6 := own_now ho0_5 hb6
    have ho3_6 := own_now ho3_5 hb6
    have hB6 := bnext hB5 hb6
    obtain ⟨-, a3', c3', b3', hv, hx3', hr3_6⟩ := own_shape ho3_6
    simp only [Value.slice.injEq] at hv
    obtain ⟨rfl, -, rfl⟩ := hv
    clear hog5 ho0_5 ho3_5 hB5 ho6
    go_wp2_with fail
    refine (eqIntS_same xs a3 a6 b3' 0 b6 0 _ _ c3 c6 w6 HL.out rfl hr3_6 hr6).mono ?_
    rintro e w7 ⟨rfl, hs7⟩
    have hog7 := own_same hog6 hs7
    have ho0_7 := own_same ho0_6 hs7
    have ho3_7 := own_same ho3_6 hs7
    have hB7 := below_same hB6 hs7
    have hsz7 : w4.heap.size ≤ w7.heap.size := Nat.le_trans hsz5 (Nat.le_trans hb6.size (hs7 0).size)
    clear hog6 ho0_6 ho3_6 hB6 hr3_6 hr6
    rw [HL.out] at ho3_7
    go_wp2_with fail
    refine (markIntS_only _ xs a3 w2.heap.size _ c3 1 w7 ho3_7 (by omega) (by have := HL.out; omega)).mono ?_
    rintro e w8 ⟨rfl, ho3m, hb8, hk8⟩
    have h38 : w3.heap.size ≤ w4.heap.size := hb4.size
    have hne : ∀ k, (k < w2.heap.size ∨ w3.heap.size ≤ k) → w8.heap[k]? = w7.heap[k]? := fun k hk => by
      apply hk8
      rcases hx3 with h | h
      · exact .inl h
      · refine .inr ⟨b3, h, ?_⟩
        have h1 := hlt3 b3 (by rw [h]; rfl)
        have h2 := (ho3_7.lt b3 (by rw [h]; rfl)).1
        omega
    have hog8 := own_keep hog7 (fun k hk => hne k (.inr ((hog7.lt k hk).1)))
    have ho0_8 := own_keep ho0_7 (fun k hk => hne k (.inl (hlt0 k hk)))
    have hB8 := hB7.trans (hb8.mono hB2.size)
    have hsz8 : w4.heap.size ≤ w8.heap.size := Nat.le_trans hsz7 hb8.size
    obtain ⟨-, ag', cg', bg', hv, -, hrg8⟩ := own_shape hog8
    simp only [Value.slice.injEq] at hv
    obtain ⟨rfl, -, rfl⟩ := hv
    obtain ⟨-, a0'', c0'', b0'', hv, -, hr0_8⟩ := own_shape ho0_8
    simp only [Value.slice.injEq] at hv
    obtain ⟨rfl, -, rfl⟩ := hv
    clear hog7 ho0_7 ho3_7 hB7 hne hk8 ho3m
    go_wp2_with fail
    refine (eqIntS_same L ag a0 bg' 0 b0'' 0 _ _ cg c0 w8 rfl rfl hrg8 hr0_8).mono ?_
    rintro e w9 ⟨rfl, hs9⟩
    have hog9 := own_same hog8 hs9
    have ho0_9 := own_same ho0_8 hs9
    have hB9 := below_same hB8 hs9
    have hsz9 : w4.heap.size ≤ w9.heap.size := Nat.le_trans hsz8 (hs9 0).size
    clear hog8 ho0_8 hB8 hrg8 hr0_8
    go_wp2_with fail
    refine (markIntS_any _ L ag w3.heap.size _ cg 1 w9 hog9 (by omega) (by omega)).mono ?_
    rintro e w10 ⟨rfl, hogm, hb10⟩
    obtain ⟨-, ag'', cg'', bgm, hv, hxgm, hrm⟩ := own_shape hogm
    simp only [Value.slice.injEq] at hv
    obtain ⟨rfl, -, rfl⟩ := hv
    have hlm : (mkd 1 L.length L).length = L.length := mkd_len _ _ _ (Nat.le_refl _)
    have HLM := Lib.hid hlm
    have ho0_10 := own_later ho0_9 (fun k hk => Nat.lt_of_lt_of_le (hlt0 k hk) hb3.size) hb10
    have hB10 := hB9.trans (hb10.mono hB3.size)
    clear hlm hog9 ho0_9 hB9
    go_wp2_with fail
    refine (heldIntS_yes (mkd 1 L.length L) ag bgm 0 _ cg 1 w10 HLM.out hrm (by omega) (by rw [HLM.out]; omega) (fun j hj => mkd_all 1 L j (by rw [HLM.out] at hj; exact hj))).mono ?_
    rintro e w10 ⟨rfl, rfl⟩
    go_wp2_with fail
    refine (toIntS_any xs a b off len cap w10 HL.out (HRD.out _ hB10).1 (HRD.out _ hB10).2 hsm).mono ?_
    rintro e w11 ⟨v11, rfl, ho11, hb11⟩
    obtain ⟨-, a11, c11, b11, rfl, hx11, hr11⟩ := own_shape ho11
    have hbl11 := HB.out w11 a11 b11 c11 hx11 hr11 (fun k hk => own_lt ho11 k hk)
    have hogm11 := own_now hogm hb11
    have ho0_11 := own_now ho0_10 hb11
    have hB11 := bnext hB10 hb11
    clear ho0_10 hogm hrm hB10
    go_wp2_with fail
    rw [HL.out]
    refine (HI.out a11 b11 c11 w11 hsm hr11 hbl11).mono ?_
    rintro e w12 ⟨vh, rfl, hoh, hb12⟩
    obtain ⟨-, ah, ch, bh, rfl, hxh, hrh⟩ := own_shape hoh
    have hogm12 := own_now hogm11 hb12
    have ho0_12 := own_now ho0_11 hb12
    have hB12 := bnext hB11 hb12
    obtain ⟨-, a0x, c0x, b0x, hv, -, hr0_12⟩ := own_shape ho0_12
    simp only [Value.slice.injEq] at hv
    obtain ⟨rfl, -, rfl⟩ := hv
    clear hogm11 ho0_11 hB11 ho11 hr11 hbl11
    go_wp2_with fail
    refine (eqIntS_same L ah a0 bh 0 b0x 0 _ _ ch c0 w12 rfl rfl hrh hr0_12).mono ?_
    rintro e w13 ⟨rfl, hs13⟩
    have hogm13 := own_same hogm12 hs13
    have hB13 := below_same hB12 hs13
    obtain ⟨-, agx, cgx, bgx, hv, -, hrm13⟩ := own_shape hogm13
    simp only [Value.slice.injEq] at hv
    obtain ⟨rfl, -, rfl⟩ := hv
    clear hogm12 ho0_12 hB12 hoh hrh hr0_12
    go_wp2_with fail
    refine (heldIntS_yes (mkd 1 L.length L) ag bgx 0 _ cg 1 w13 HLM.out hrm13 (by omega) (by rw [HLM.out]; omega) (fun j hj => mkd_all 1 L j (by rw [HLM.out] at hj; exact hj))).mono ?_
    rintro e w13 ⟨rfl, rfl⟩
    go_wp2_with fail
    go_ret
    exact ⟨rfl, hB13⟩
theorem law_ExitOf (n : Int) (a : Option Addr) (len cap : Nat) (zs : List Int) (i j : Int) (w : World) (_ : (Lit.int .i64 n).wf = true) (hrow : IsRow w a len cap zs) (_ : (Lit.int .i64 i).wf = true) (_ : (Lit.int .i64 j).wf = true) :
    Calls Try.prog 4 #[.int .i64 n, .slice a len cap, .int .i64 i, .int .i64 j] w fun e w' => e = .returned (.bool true) ∧ Below w.heap.size w w' :=
  lawOf_ExitOf n a len cap zs i j w hrow _ _ (valExit_len n (zs.take len) i j) (fun a' b' cap' w' _ hr hb => specExitOf n _ i j a' b' len cap' w' (isRow_rd hrow).1 hr hb) (fun a' b' cap' w' hsm hr hb => implExitOf n _ i j a' b' len cap' w' (isRow_rd hrow).1 hsm hr hb)
end Go.Proofs.Ythkohenobbhhmaa
