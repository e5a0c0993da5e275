import Derived.Test.YtncpnkcdjfohgaaDoorWPiecesOf
import Derived.Test.YtncpnkcdjfohgaaDoorMd5
namespace Go.Proofs.YtncpnkcdjfohgaaDoor
open Go.RowKit
set_option maxRecDepth 4000
theorem idxOff (ts : List (List Int)) (n i p : Nat) (hp : p < 3) (w : World) : (Instr.index 70 (.agg (offA ts n i)) (.int .i64 p)).run Tryd.prog w = .ok (.agg #[.int .i64 (worth (ts.getD p []) n i 0), .int .i64 (worth (ts.getD p []) n i 1), .int .i64 (worth (ts.getD p []) n i 2)]) w := by
  rcases (show p = 0 ∨ p = 1 ∨ p = 2 by omega) with rfl | rfl | rfl
  · exact (show (Instr.index 70 (.agg (offA ts n i)) (.int .i64 0)).run Tryd.prog w = .ok (.agg #[.int .i64 (worth (ts.getD 0 []) n i 0), .int .i64 (worth (ts.getD 0 []) n i 1), .int .i64 (worth (ts.getD 0 []) n i 2)]) w by kernel_rfl)
  · exact (show (Instr.index 70 (.agg (offA ts n i)) (.int .i64 1)).run Tryd.prog w = .ok (.agg #[.int .i64 (worth (ts.getD 1 []) n i 0), .int .i64 (worth (ts.getD 1 []) n i 1), .int .i64 (worth (ts.getD 1 []) n i 2)]) w by kernel_rfl)
  · exact (show (Instr.index 70 (.agg (offA ts n i)) (.int .i64 2)).run Tryd.prog w = .ok (.agg #[.int .i64 (worth (ts.getD 2 []) n i 0), .int .i64 (worth (ts.getD 2 []) n i 1), .int .i64 (worth (ts.getD 2 []) n i 2)]) w by kernel_rfl)
set_option maxHeartbeats 1600000 in
theorem implPiecesOf_yes (n p i : Nat) (h1 : 1 ≤ n) (h2 : n ≤ 8) (hp : p < 3) (hi : i < Pr.cnt n) (ts : List (List Int)) (hy : rowsB n 9 ts = true) (a : Option Addr) (cap : Nat) (w : World) (h : RdSS w w.heap.size a ts) :
    Calls Tryd.prog 30 #[.int .i64 n, .slice a ts.length cap, .int .i64 p, .int .i64 i] w (OutPiecesOf w (pcs (ts.getD p []) n i) true) := by
  have HC := Lib.hid (fun w h => cutOf_yes n h1 h2 i hi ts a cap w h hy)
  have HO := Lib.hid (fun w => offersAt_any n i h1 h2 hi ts hy w)
  have HRD := Lib.hid h
  have hidx := idxOff ts n i p hp
  have HP : Hid (pcs (ts.getD p []) n i = [worth (ts.getD p []) n i 0, worth (ts.getD p []) n i 1, worth (ts.getD p []) n i 2]) := Lib.hid rfl
  have hp3 : (p : Int) < 3 := by omega
  clear h hy
  generalize worth (ts.getD p []) n i 0 = x0 at *
  generalize worth (ts.getD p []) n i 1 = x1 at *
  generalize worth (ts.getD p []) n i 2 = x2 at *
  go_enter Tryd.func30, Tryd.ntmps30
  go_wp2_with fail
  refine (HC.out _ HRD.out).mono ?_
  rintro e w1 ⟨rfl, hb1⟩
  obtain ⟨hA1, hS1⟩ := two_heap w1 (.cells zeroC 55) (.cells zeroS 75)
  have hAB1 := balloc (balloc hb1 (.cells zeroC 55)) (.cells zeroS 75)
  have hAz1 : ((w1.alloc (.cells zeroC 55)).alloc (.cells zeroS 75)).heap.size = w1.heap.size + 2 := by simp
  have hz1 := hb1.size
  go_wp2_with (first | (with_reducible refine alloc_blk zeroC run_alloc_cake rfl rfl ?_) | ((with_reducible refine alloc_blk zeroS run_alloc_spot rfl rfl ?_); simp only [World.size_alloc, Act.put, List.setIfInBounds_toArray, List.set_cons_zero, List.set_cons_succ]) | ((with_reducible refine store_blk blkCake rfl _ _ rfl w1.heap.size (cakeA n ts) zeroC ?_ ?_ hA1 zeroC_size (cakeA_size _ _) (cakeA_one _ _) w1.heap.size (Nat.le_refl _) ?_); exact rfl; exact rfl; intro w2 hg2 hb2 hk2 hz2; have hs2 := (hk2 (w1.heap.size + 1) (by omega)).trans hS1) | ((with_reducible refine store_blk blkSpot rfl _ _ rfl (w1.heap.size + 1) (spA n i) zeroS ?_ ?_ hs2 zeroS_size (spA_size _ _) (spA_one _ _) (w1.heap.size + 1) (Nat.le_refl _) ?_); exact rfl; exact rfl; intro w3 hg3 hb3 hk3 hz3; have hc3 := (hk3 w1.heap.size (by omega)).trans hg2; have hB3 : Below w.heap.size w w3 := (hAB1.trans (hb2.mono hz1)).trans (hb3.mono (by omega)); have hz3' : w3.heap.size = w1.heap.size + 2 := (by rw [hz3, hz2, hAz1])))
  refine (isPerson_yes p ⟨by omega, by omega⟩ _).mono ?_
  rintro e w' ⟨rfl, rfl⟩
  go_wp2_with (first | ((with_reducible refine load_blk blkCake ?_ _ rfl (w1.heap.size) ?_ (cakeA n ts) hc3 (cakeA_size _ _) ?_); exact rfl; exact rfl; simp only [Act.put, List.setIfInBounds_toArray, List.set_cons_zero, List.set_cons_succ]) | ((with_reducible refine load_blk blkSpot ?_ _ rfl (w1.heap.size + 1) ?_ (spA n i) hg3 (spA_size _ _) ?_); exact rfl; exact rfl; simp only [Act.put, List.setIfInBounds_toArray, List.set_cons_zero, List.set_cons_succ]))
  refine (HO.out _).mono ?_
  rintro e w5 ⟨rfl, hb5⟩
  have hB5 := bnext hB3 hb5
  go_wp2_with fail
  go_returns
  refine ⟨_, rfl, ?_, balloc hB5 _⟩
  rw [HP.out]
  exact ⟨_, own_block (cap := 3) (xs := [x0, x1, x2]) hB5.size (heap_alloc_new _ _) (by simp) rfl (by simp [maxLen]), fun q hq => by
    simp [Value.ownBlock] at hq
    subst hq
    simp⟩
set_option maxHeartbeats 800000 in
theorem cutOf_fail (n i : Int) (ts : List (List Int)) (hno : ¬ okC n ts i) (a : Option Addr) (cap : Nat) (w : World) (h : RdSS w w.heap.size a ts) :
    Calls Tryd.prog 54 #[.int .i64 n, .slice a ts.length cap, .int .i64 i] w fun e w' => e = .returned (.tuple #[.agg zeroC, .agg zeroS, .bool false]) ∧ Below w.heap.size w w' := by
  by_cases hn : 1 ≤ n ∧ n ≤ 8
  · obtain ⟨n, rfl⟩ := Int.eq_ofNat_of_zero_le (show 0 ≤ n by omega)
    have e : tstB n ts = rowsB n 9 ts := by simp [tstB]; omega
    cases hy : rowsB n 9 ts
    · exact cutOf_bad n i ts a cap w (by omega) (by omega) h hy
    · refine cutOf_no n (by omega) (by omega) i (fun hi => hno ⟨by rw [e, hy], by omega, by omega, hi.1, by simpa using hi.2⟩) ts a cap w h hy
  · exact cutOf_side n i ts a cap w hn
theorem okC_yes {n i : Int} {ts : List (List Int)} (h : okC n ts i) : ∃ m j : Nat, n = m ∧ i = j ∧ 1 ≤ m ∧ m ≤ 8 ∧ j < Pr.cnt m ∧ rowsB m 9 ts = true := by
  obtain ⟨hT, h1, h2, h3, h4⟩ := h
  obtain ⟨m, rfl⟩ := Int.eq_ofNat_of_zero_le (show 0 ≤ n by omega)
  obtain ⟨j, rfl⟩ := Int.eq_ofNat_of_zero_le h3
  have e : tstB m ts = rowsB m 9 ts := by simp [tstB]; omega
  exact ⟨m, j, rfl, rfl, by omega, by omega, by simpa using h4, by rw [← e]; exact hT⟩
set_option maxHeartbeats 1600000 in
theorem implPiecesOf_no (n p i : Int) (ts : List (List Int)) (hno : ¬ (okC n ts i ∧ okP p)) (a : Option Addr) (cap : Nat) (w : World) (h : RdSS w w.heap.size a ts) :
    Calls Tryd.prog 30 #[.int .i64 n, .slice a ts.length cap, .int .i64 p, .int .i64 i] w (OutPiecesOf w [] false) := by
  have HRD := Lib.hid h
  clear h
  by_cases hc : okC n ts i
  · have hp : ¬ okP p := fun hp => hno ⟨hc, hp⟩
    obtain ⟨n, i, rfl, rfl, h1, h2, hi, hy⟩ := okC_yes hc
    have HC := Lib.hid (fun w h => cutOf_yes n h1 h2 i hi ts a cap w h hy)
    have HP := Lib.hid hp
    clear hno hc hp hy
    go_enter Tryd.func30, Tryd.ntmps30
    go_wp2_with fail
    refine (HC.out _ HRD.out).mono ?_
    rintro e w1 ⟨rfl, hb1⟩
    obtain ⟨hA1, hS1⟩ := two_heap w1 (.cells zeroC 55) (.cells zeroS 75)
    have hAB1 := balloc (balloc hb1 (.cells zeroC 55)) (.cells zeroS 75)
    have hAz1 : ((w1.alloc (.cells zeroC 55)).alloc (.cells zeroS 75)).heap.size = w1.heap.size + 2 := by simp
    have hz1 := hb1.size
    go_wp2_with (first | (with_reducible refine alloc_blk zeroC run_alloc_cake rfl rfl ?_) | ((with_reducible refine alloc_blk zeroS run_alloc_spot rfl rfl ?_); simp only [World.size_alloc, Act.put, List.setIfInBounds_toArray, List.set_cons_zero, List.set_cons_succ]) | ((with_reducible refine store_blk blkCake rfl _ _ rfl w1.heap.size (cakeA n ts) zeroC ?_ ?_ hA1 zeroC_size (cakeA_size _ _) (cakeA_one _ _) w1.heap.size (Nat.le_refl _) ?_); exact rfl; exact rfl; intro w2 hg2 hb2 hk2 hz2; have hs2 := (hk2 (w1.heap.size + 1) (by omega)).trans hS1) | ((with_reducible refine store_blk blkSpot rfl _ _ rfl (w1.heap.size + 1) (spA n i) zeroS ?_ ?_ hs2 zeroS_size (spA_size _ _) (spA_one _ _) (w1.heap.size + 1) (Nat.le_refl _) ?_); exact rfl; exact rfl; intro w3 hg3 hb3 hk3 hz3; have hc3 := (hk3 w1.heap.size (by omega)).trans hg2; have hB3 : Below w.heap.size w w3 := (hAB1.trans (hb2.mono hz1)).trans (hb3.mono (by omega)); have hz3' : w3.heap.size = w1.heap.size + 2 := (by rw [hz3, hz2, hAz1])))
    refine (isPerson_no p HP.out _).mono ?_
    rintro e w' ⟨rfl, rfl⟩
    go_wp2_with fail
    go_returns
    exact ⟨_, rfl, oi_nil _ _ _, hB3⟩
  · have HC := Lib.hid (fun w h => cutOf_fail n i ts hc a cap w h)
    clear hno hc
    go_enter Tryd.func30, Tryd.ntmps30
    go_wp2_with fail
    refine (HC.out _ HRD.out).mono ?_
    rintro e w1 ⟨rfl, hb1⟩
    obtain ⟨hA1, hS1⟩ := two_heap w1 (.cells zeroC 55) (.cells zeroS 75)
    have hAB1 := balloc (balloc hb1 (.cells zeroC 55)) (.cells zeroS 75)
    have hAz1 : ((w1.alloc (.cells zeroC 55)).alloc (.cells zeroS 75)).heap.size = w1.heap.size + 2 := by simp
    have hz1 := hb1.size
    go_wp2_with (first | (with_reducible refine alloc_blk zeroC run_alloc_cake rfl rfl ?_) | ((with_reducible refine alloc_blk zeroS run_alloc_spot rfl rfl ?_); simp only [World.size_alloc, Act.put, List.setIfInBounds_toArray, List.set_cons_zero, List.set_cons_succ]) | ((with_reducible refine store_blk blkCake rfl _ _ rfl w1.heap.size (zeroC) zeroC ?_ ?_ hA1 zeroC_size (zeroC_size) (zeroC_one) w1.heap.size (Nat.le_refl _) ?_); exact rfl; exact rfl; intro w2 hg2 hb2 hk2 hz2; have hs2 := (hk2 (w1.heap.size + 1) (by omega)).trans hS1) | ((with_reducible refine store_blk blkSpot rfl _ _ rfl (w1.heap.size + 1) (zeroS) zeroS ?_ ?_ hs2 zeroS_size (zeroS_size) (zeroS_one) (w1.heap.size + 1) (Nat.le_refl _) ?_); exact rfl; exact rfl; intro w3 hg3 hb3 hk3 hz3; have hc3 := (hk3 w1.heap.size (by omega)).trans hg2; have hB3 : Below w.heap.size w w3 := (hAB1.trans (hb2.mono hz1)).trans (hb3.mono (by omega)); have hz3' : w3.heap.size = w1.heap.size + 2 := (by rw [hz3, hz2, hAz1])))
    go_returns
    exact ⟨_, rfl, oi_nil _ _ _, hB3⟩
theorem pcs_len (t : List Int) (n i : Nat) : (pcs t n i).length = 3 := rfl
end Go.Proofs.YtncpnkcdjfohgaaDoor
