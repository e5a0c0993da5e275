import Derived.Test.YtgloelhpnhofgaaR7
import Derived.Test.YtgloelhpnhofgaaVj
namespace Go.Proofs.Ytgloelhpnhofgaa
open Go.RowKit
set_option maxRecDepth 4000
theorem fp_eq (o : Option (Int × Int)) : ∃ a b : Int, fp o = .tuple #[.agg #[.int .i64 a, .int .i64 b], .bool o.isSome] ∧ (o = none ∧ a = 0 ∧ b = 0 ∨ o = some (a, b)) := by
  cases o with
  | none => exact ⟨0, 0, rfl, .inl ⟨rfl, rfl, rfl⟩⟩
  | some d => exact ⟨d.1, d.2, rfl, .inr rfl⟩
theorem gives_nil' {w w' : World} {et : TypeId} {L : List Int} {b : Bool} (hL : L = []) (hb : b = false) (hB : Below w.heap.size w w') : Gives w et L b (.returned (.tuple #[.slice none 0 0, .bool false])) w' := by
  subst hL hb
  exact gives_none hB
set_option maxHeartbeats 1600000 in
theorem exit_any (n : Nat) (xs : List Int) (base g : Nat) (r : Array Value) (pa : Option Addr) (pm pc : Nat) (u v : Int) (f : Bool) (w : World) (hL : labB n xs = true) (hr : RmW 90 #[] (capD g) (drB xs) (ci n) (bps n (3 * n)) base r w) :
    Calls Try.prog 57 #[.agg (wkA r (.slice pa pm pc) u v f)] w fun e w' => e = .returned (fp (if f then none else (bds n xs).find? (fun d => sameB d (u, v)))) ∧ Below w.heap.size w w' := by
  obtain ⟨hsz, hone⟩ := rm_size hr
  have hB0 := balloc (balloc (Below.refl w.heap.size w) (.cells (wkA r (.slice pa pm pc) u v f) 71)) (.cells #[.int .i64 0, .int .i64 0] 69)
  have hg1 : ((w.alloc (.cells (wkA r (.slice pa pm pc) u v f) 71)).alloc (.cells #[.int .i64 0, .int .i64 0] 69)).heap[w.heap.size]? = some (.cells (wkA r (.slice pa pm pc) u v f) 71 (0, 0)) := by
    rw [Below.heap_alloc _ _ _ (by simp)]
    exact heap_alloc_new w _
  have hz1 : ((w.alloc (.cells (wkA r (.slice pa pm pc) u v f) 71)).alloc (.cells #[.int .i64 0, .int .i64 0] 69)).heap[w.heap.size + 1]? = some (.cells #[.int .i64 0, .int .i64 0] 69 (0, 0)) := by
    have e := heap_alloc_new (w.alloc (.cells (wkA r (.slice pa pm pc) u v f) 71)) (.cells #[.int .i64 0, .int .i64 0] 69)
    rwa [World.size_alloc] at e
  have hs1 : ((w.alloc (.cells (wkA r (.slice pa pm pc) u v f) 71)).alloc (.cells #[.int .i64 0, .int .i64 0] 69)).heap.size = w.heap.size + 2 := by simp
  have q6 := blk_cell hg1 6 _ (wk_at hsz _ _ _ _ 3)
  have q4 := blk_cell hg1 4 _ (wk_at hsz _ _ _ _ 1)
  have q5 := blk_cell hg1 5 _ (wk_at hsz _ _ _ _ 2)
  have HBD := Lib.hid (fun w' (hb : Below w.heap.size w w') => borderDoor_any _ #[] (capD g) (drB xs) (ci n) (bps n (3 * n)) (Pr.cnt n) base r u v w' (fgr_ci hL) (hr.later hb))
  rw [show (bps n (3 * n)).filter (drB xs) = bds n xs from rfl] at HBD
  clear hL hr
  cases f
  · rw [if_neg (by simp)]
    generalize (bds n xs).find? (fun d => sameB d (u, v)) = O at HBD ⊢
    obtain ⟨a, b, hfp, -⟩ := fp_eq O
    have HFP := Lib.hid hfp
    clear hfp
    go_enter Try.func57, Try.ntmps57
    go_wp2_with ((with_reducible refine load_win blkRms ?_ _ rfl w.heap.size 0 ?_ (wkA r (.slice pa pm pc) u v false) r hg1 (wk_rooms hsz _ _ _ _) hsz ?_); exact rfl; exact rfl; simp only [Act.put, List.setIfInBounds_toArray, List.set_cons_zero, List.set_cons_succ])
    generalize ((w.alloc (.cells (wkA r (.slice pa pm pc) u v false) 71)).alloc (.cells #[.int .i64 0, .int .i64 0] 69)) = w1 at hB0 hg1 hz1 hs1 q4 q5 q6 ⊢
    refine (HBD.out w1 hB0).mono ?_
    rintro e w2 ⟨rfl, hb2⟩
    rw [HFP.out]
    have hz2 := (hb2.block (w.heap.size + 1) (by omega)).trans hz1
    have hB2 := bnext hB0 hb2
    clear hb2 hz1 hg1 q4 q5 q6 hB0
    go_wp2_with ((with_reducible refine store_blk blkPair rfl _ _ rfl (w.heap.size + 1) #[.int .i64 a, .int .i64 b] #[.int .i64 0, .int .i64 0] ?_ ?_ hz2 (pair_size _ _) (pair_size _ _) (pair_one _ _) w.heap.size (by omega) ?_); exact rfl; exact rfl; intro w3 hg3 hb3 hk3 hs3)
    exact bodyPost_ret (results_blk blkPair rfl _ _ (w.heap.size + 1) _ (.bool O.isSome) rfl rfl hg3 rfl) rfl ⟨by rw [HFP.out], hB2.trans hb3⟩
  · rw [if_pos rfl]
    clear HBD q4 q5
    go_enter Try.func57, Try.ntmps57
    go_wp2_with ((with_reducible refine store_blk blkPair rfl _ _ rfl (w.heap.size + 1) #[.int .i64 0, .int .i64 0] #[.int .i64 0, .int .i64 0] ?_ ?_ hz1 (pair_size _ _) (pair_size _ _) (pair_one _ _) w.heap.size (by omega) ?_); exact rfl; exact rfl; intro w3 hg3 hb3 hk3 hs3)
    exact bodyPost_ret (results_blk blkPair rfl _ _ (w.heap.size + 1) _ (.bool false) rfl rfl hg3 rfl) rfl ⟨rfl, hB0.trans hb3⟩
set_option maxHeartbeats 1600000 in
theorem implExitOf (n : Int) (xs : List Int) (i : Int) (j : Int) (a : Option Addr) (b len cap : Nat) (w : World) (hn : xs.length = len) (hsm : len ≤ 1048576) (h : Rd w a b 0 xs) (hb0 : len = 0 ∨ b < w.heap.size) :
    Calls Try.prog 22 #[.int .i64 n, .slice a len cap, .int .i64 i, .int .i64 j] w (Gives w 69 (valExit n xs i j) (okExit n xs i j)) := by
  cases hL : labB n xs
  · have H1 : Hid (valExit n xs i j = [] ∧ okExit n xs i j = false) := Lib.hid (by simp [valExit, okExit, okW, hL])
    have HR := Lib.hid (roomsOf_no n xs a b len cap w hn hsm h hb0 hL)
    skip
    clear hL hn h hb0
    go_enter Try.func22, Try.ntmps22
    go_wp2_with fail
    refine HR.out.mono ?_
    rintro e w1 ⟨rfl, hb1⟩
    go_wp2_with (first | (with_reducible refine alloc_blk lr0 run_alloc_lr rfl rfl ?_) | ((with_reducible refine store_blk blkLR rfl _ _ rfl w1.heap.size lr0 lr0 ?_ ?_ ?_ lr0_size lr0_size lr0_one w1.heap.size (Nat.le_refl _) ?_); exact rfl; exact rfl; exact heap_alloc_new _ _; intro w3 hg3 hb3 hk3 hs3; have hB3 := bnext hb1 ((balloc (Below.refl w1.heap.size w1) (.cells lr0 65)).trans hb3)))
    go_ret2
    exact gives_nil' H1.out.1 H1.out.2 hB3
  · obtain ⟨n, rfl⟩ := labB_nat hL
    have h2 := (labB_yes hL).2.1
    cases hso : (bds n xs).find? (fun q => sameB q (i, j)) with
    | none =>
      have hok : okW n xs i j = false := by simp [okW, hso]
      have H1 : Hid (valExit n xs i j = [] ∧ okExit n xs i j = false) := Lib.hid ⟨by simp [valExit, hok], by simp [okExit, hok]⟩
      have HSO := Lib.hid hso
      have HR := Lib.hid (roomsOf_yes n xs a b len cap w hn hsm h hb0 hL)
      have HL := Lib.hid hL
      clear hL hn h hb0 hso hok
      go_enter Try.func22, Try.ntmps22
      go_wp2_with fail
      refine HR.out.mono ?_
      rintro e w1 ⟨R, rfl, hrv, hb1⟩
      obtain ⟨g, r, hrm, hrs, hro, hRs, hRo, r0, rk, hrj, hgb⟩ := rt_row HL.out hrv
      go_wp2_with (first | (with_reducible refine alloc_blk lr0 run_alloc_lr rfl rfl ?_) | ((with_reducible refine store_blk blkLR rfl _ _ rfl w1.heap.size R lr0 ?_ ?_ ?_ lr0_size hRs hRo w1.heap.size (Nat.le_refl _) ?_); exact rfl; exact rfl; exact heap_alloc_new _ _; intro w3 hg3 hb3 hk3 hs3; have hB13 := ((balloc (Below.refl w1.heap.size w1) (.cells lr0 65)).trans hb3)) | ((with_reducible refine load_win blkRms ?_ _ rfl (w1.heap.size) 46 ?_ R r hg3 hrj hrs ?_); exact rfl; exact rfl; simp only [Act.put, List.setIfInBounds_toArray, List.set_cons_zero, List.set_cons_succ]))
      have hB3 := bnext hb1 hB13
      refine (walkBT_none n xs _ g r i j w3 HL.out (hrm.later hB13) HSO.out).mono ?_
      rintro e w4 ⟨rfl, hb4⟩
      have hB4 := bnext hB3 hb4
      go_wp2_with (first | (with_reducible refine alloc_blk zeroW run_alloc_wk rfl rfl ?_) | ((with_reducible refine store_blk blkWalk rfl _ _ rfl w4.heap.size zeroW zeroW ?_ ?_ ?_ zeroW_size zeroW_size zeroW_one w4.heap.size (Nat.le_refl _) ?_); exact rfl; exact rfl; exact heap_alloc_new _ _; intro w5 hg5 hb5 hk5 hs5; have hB5 := bnext hB4 ((balloc (Below.refl w4.heap.size w4) (.cells zeroW 71)).trans hb5)))
      go_ret2
      exact gives_nil' H1.out.1 H1.out.2 hB5
    | some p =>
      obtain ⟨hok, hgo, hwf⟩ := okW_door hL hso
      have HV : Hid (valExit n xs i j = exL (exO n xs i j)) := Lib.hid (by simp [valExit, hok])
      have HK : Hid (okExit n xs i j = (exO n xs i j).isSome) := Lib.hid (by simp [okExit, hok])
      have HX : Hid (exO n xs i j = if (wfrom xs n (-1) p).2.2 then none else (bds n xs).find? (exF (wfrom xs n (-1) p).2.1)) := Lib.hid (by rw [exO, hwf])
      have HWB := Lib.hid (fun base g r w' hr => walkBT_some n xs base g r i j p w' hL hr hso hgo)
      generalize wfrom xs n (-1) p = W at HWB hwf HX ⊢
      generalize exO n xs i j = O at HV HK HX
      obtain ⟨L, D, f⟩ := W
      simp only at HX
      have HR := Lib.hid (roomsOf_yes n xs a b len cap w hn hsm h hb0 hL)
      have HL := Lib.hid hL
      clear hL hn h hb0 hso hok hgo hwf
      go_enter Try.func22, Try.ntmps22
      go_wp2_with fail
      refine HR.out.mono ?_
      rintro e w1 ⟨R, rfl, hrv, hb1⟩
      obtain ⟨g, r, hrm, hrs, hro, hRs, hRo, r0, rk, hrj, hgb⟩ := rt_row HL.out hrv
      go_wp2_with (first | (with_reducible refine alloc_blk lr0 run_alloc_lr rfl rfl ?_) | ((with_reducible refine store_blk blkLR rfl _ _ rfl w1.heap.size R lr0 ?_ ?_ ?_ lr0_size hRs hRo w1.heap.size (Nat.le_refl _) ?_); exact rfl; exact rfl; exact heap_alloc_new _ _; intro w3 hg3 hb3 hk3 hs3; have hB13 := ((balloc (Below.refl w1.heap.size w1) (.cells lr0 65)).trans hb3)) | ((with_reducible refine load_win blkRms ?_ _ rfl (w1.heap.size) 46 ?_ R r hg3 hrj hrs ?_); exact rfl; exact rfl; simp only [Act.put, List.setIfInBounds_toArray, List.set_cons_zero, List.set_cons_succ]))
      have hB3 := bnext hb1 hB13
      refine (HWB.out _ g r w3 (hrm.later hB13)).mono ?_
      rintro e w4 ⟨pv, u, v, rfl, ho4, hin, hb4⟩
      have ho4 := own_num ho4 (ints_len L).symm
      obtain ⟨-, pa, pc, pb, rfl, -⟩ := own_shape ho4
      have hwz : Hid ((wkA r (.slice pa (ints L).length pc) u v f).size = 7 ∧ (wkA r (.slice pa (ints L).length pc) u v f).all (·.oneCell') = true) := Lib.hid ⟨wkA_size _ _ _ _ _ hrs, wkA_one _ _ _ _ _ _ _ hro⟩
      have HO : Hid (O = if f then none else (bds n xs).find? (fun d => sameB d (u, v))) := Lib.hid (by
        rw [HX.out]
        cases f
        · rw [if_neg (by simp), if_neg (by simp)]
          refine find_congr _ fun d _ => ?_
          rw [same_inner, exF, hin]
        · rfl)
      have hB14 := bnext hB13 hb4
      have hB4 := bnext hB3 hb4
      clear ho4 hin
      go_wp2_with (first | (with_reducible refine alloc_blk zeroW run_alloc_wk rfl rfl ?_) | ((with_reducible refine store_blk blkWalk rfl _ _ rfl w4.heap.size (wkA r (.slice pa (ints L).length pc) u v f) zeroW ?_ ?_ ?_ zeroW_size hwz.out.1 hwz.out.2 w4.heap.size (Nat.le_refl _) ?_); exact rfl; exact rfl; exact heap_alloc_new _ _; intro w5 hg5 hb5 hk5 hs5; have hB5 := ((balloc (Below.refl w4.heap.size w4) (.cells zeroW 71)).trans hb5)) | ((with_reducible refine load_blk blkWalk ?_ _ rfl (w4.heap.size) ?_ _ hg5 hwz.out.1 ?_); exact rfl; exact rfl; simp only [Act.put, List.setIfInBounds_toArray, List.set_cons_zero, List.set_cons_succ]))
      refine (exit_any n xs _ g r pa _ pc u v f w5 HL.out (hrm.later (bnext hB14 hB5))).mono ?_
      rw [← HO.out]
      rintro e w6 ⟨rfl, hb6⟩
      have hB6 := bnext (bnext hB4 hB5) hb6
      clear hrv hrm hb1 hg5 hb5 hk5 hs5 hB5 hb6 hB4 hB14 hg3
      obtain ⟨x, y, hfp, hO⟩ := fp_eq O
      rw [hfp]
      clear hfp
      rcases hO with ⟨rfl, rfl, rfl⟩ | rfl
      · rw [show (none : Option (Int × Int)).isSome = false from rfl]
        go_wp2_with fail
        go_ret2
        exact gives_nil' (by rw [HV.out]; rfl) (by rw [HK.out]; rfl) (balloc hB6 _)
      · rw [show (some (x, y) : Option (Int × Int)).isSome = true from rfl]
        go_wp2_with fail
        go_ret2
        have HLL : valExit n xs i j = [x, y] := by rw [HV.out]; rfl
        rw [HLL, show okExit n xs i j = true by rw [HK.out]; rfl]
        refine ⟨_, rfl, own_block (xs := [x, y]) (cur := #[.int .i64 x, .int .i64 y]) hB6.size (heap_alloc_new w6 _) rfl rfl (by simp [maxLen]), balloc hB6 _⟩
end Go.Proofs.Ytgloelhpnhofgaa
