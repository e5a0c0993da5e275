import Derived.Test.YtgpikaolgalpbaaGh
import Derived.Test.YtgpikaolgalpbaaYs
namespace Go.Proofs.Ytgpikaolgalpbaa
open Go.RowKit
set_option maxRecDepth 4000
set_option maxHeartbeats 1600000 in
theorem edgeBehind_no (n : Int) (a : Option Addr) (len cap : Nat) (r : Array Value) (pv : Value) (u v : Int) (w : World) (hsz : r.size = 3) :
    Calls Try.prog 77 #[.agg (lqA n a len cap), .agg (wkA r pv u v false)] w fun e w' => e = .returned (fp none) ∧ Below w.heap.size w w' := by
  have hB0 := balloc (balloc (balloc (Below.refl w.heap.size w) (.cells (lqA n a len cap) 69)) (.cells (wkA r pv u v false) 91)) (.cells #[.int .i64 0, .int .i64 0] 89)
  have hg0 : (((w.alloc (.cells (lqA n a len cap) 69)).alloc (.cells (wkA r pv u v false) 91)).alloc (.cells #[.int .i64 0, .int .i64 0] 89)).heap[w.heap.size]? = some (.cells (lqA n a len cap) 69 (0, 0)) := by
    rw [Below.heap_alloc _ _ _ (by simp; omega), Below.heap_alloc _ _ _ (by simp)]
    exact heap_alloc_new w _
  have hg1 : (((w.alloc (.cells (lqA n a len cap) 69)).alloc (.cells (wkA r pv u v false) 91)).alloc (.cells #[.int .i64 0, .int .i64 0] 89)).heap[w.heap.size + 1]? = some (.cells (wkA r pv u v false) 91 (0, 0)) := by
    rw [Below.heap_alloc _ _ _ (by simp)]
    have e := heap_alloc_new (w.alloc (.cells (lqA n a len cap) 69)) (.cells (wkA r pv u v false) 91)
    rwa [World.size_alloc] at e
  have hz1 : (((w.alloc (.cells (lqA n a len cap) 69)).alloc (.cells (wkA r pv u v false) 91)).alloc (.cells #[.int .i64 0, .int .i64 0] 89)).heap[w.heap.size + 1 + 1]? = some (.cells #[.int .i64 0, .int .i64 0] 89 (0, 0)) := by
    have e := heap_alloc_new ((w.alloc (.cells (lqA n a len cap) 69)).alloc (.cells (wkA r pv u v false) 91)) (.cells #[.int .i64 0, .int .i64 0] 89)
    rwa [World.size_alloc, World.size_alloc] at e
  have hs1 : (((w.alloc (.cells (lqA n a len cap) 69)).alloc (.cells (wkA r pv u v false) 91)).alloc (.cells #[.int .i64 0, .int .i64 0] 89)).heap.size = w.heap.size + 3 := by simp
  have q6 := blk_cell hg1 6 _ (wk_at hsz _ _ _ _ 3)
  go_enter Try.func77, Try.ntmps77
  go_wp2_with ((with_reducible refine store_blk blkPair rfl _ _ rfl (w.heap.size + 1 + 1) #[.int .i64 0, .int .i64 0] #[.int .i64 0, .int .i64 0] ?_ ?_ hz1 (pair_size _ _) (pair_size _ _) (pair_one _ _) w.heap.size (by omega) ?_); exact rfl; exact rfl; intro w5 hg5 hb5 _ _)
  exact bodyPost_ret (results_blk blkPair rfl _ _ (w.heap.size + 1 + 1) _ (.bool false) rfl rfl hg5 rfl) rfl ⟨ret_fn rfl, hB0.trans hb5⟩
set_option maxHeartbeats 3200000 in
theorem edgeBehind_yes (n : Nat) (xs : List Int) (a : Option Addr) (b len cap : Nat) (base base2 : Nat) (r : Array Value) (fv : Value) (pv : Value) (u v : Int) (pre : List Nat) (l : Nat) (p : Int × Int) (rest : List (Int × Int)) (w : World) (hn : xs.length = len) (h : Rd w a b 0 xs) (hb0 : len = 0 ∨ b < w.heap.size) (hL : sqB n xs = true)
    (hv : RmsV w base (sqC n) (sqPs n) fv r) (hsz : r.size = 3) (ho : w.ownsRow base2 3 1 pv (ints (pre ++ [l])).length ((ints (pre ++ [l])).map (Value.int .i64))) (hpl : pre.length ≤ 1000) (hl : l < (sqC n).length) (he : oppAt xs n l = p :: rest) :
    Calls Try.prog 77 #[.agg (lqA n a len cap), .agg (wkA r pv u v true)] w fun e w' => e = .returned (fp (some p)) ∧ Below w.heap.size w w' := by
  have hB0 := balloc (balloc (balloc (Below.refl w.heap.size w) (.cells (lqA n a len cap) 69)) (.cells (wkA r pv u v true) 91)) (.cells #[.int .i64 0, .int .i64 0] 89)
  have hg0 : (((w.alloc (.cells (lqA n a len cap) 69)).alloc (.cells (wkA r pv u v true) 91)).alloc (.cells #[.int .i64 0, .int .i64 0] 89)).heap[w.heap.size]? = some (.cells (lqA n a len cap) 69 (0, 0)) := by
    rw [Below.heap_alloc _ _ _ (by simp; omega), Below.heap_alloc _ _ _ (by simp)]
    exact heap_alloc_new w _
  have hg1 : (((w.alloc (.cells (lqA n a len cap) 69)).alloc (.cells (wkA r pv u v true) 91)).alloc (.cells #[.int .i64 0, .int .i64 0] 89)).heap[w.heap.size + 1]? = some (.cells (wkA r pv u v true) 91 (0, 0)) := by
    rw [Below.heap_alloc _ _ _ (by simp)]
    have e := heap_alloc_new (w.alloc (.cells (lqA n a len cap) 69)) (.cells (wkA r pv u v true) 91)
    rwa [World.size_alloc] at e
  have hz1 : (((w.alloc (.cells (lqA n a len cap) 69)).alloc (.cells (wkA r pv u v true) 91)).alloc (.cells #[.int .i64 0, .int .i64 0] 89)).heap[w.heap.size + 1 + 1]? = some (.cells #[.int .i64 0, .int .i64 0] 89 (0, 0)) := by
    have e := heap_alloc_new ((w.alloc (.cells (lqA n a len cap) 69)).alloc (.cells (wkA r pv u v true) 91)) (.cells #[.int .i64 0, .int .i64 0] 89)
    rwa [World.size_alloc, World.size_alloc] at e
  have hs1 : (((w.alloc (.cells (lqA n a len cap) 69)).alloc (.cells (wkA r pv u v true) 91)).alloc (.cells #[.int .i64 0, .int .i64 0] 89)).heap.size = w.heap.size + 3 := by simp
  have q6 := blk_cell hg1 6 _ (wk_at hsz _ _ _ _ 3)
  obtain ⟨n', hnn, h1, h2, hxl, hA⟩ := sqB_nat hL
  obtain rfl : n = n' := by omega
  clear hnn
  have HAS := Lib.hid (fun W (hB : Below w.heap.size w W) => opp_asks n xs a b len cap W hn (h.later hn hb0 hB) (by have := hB.size; omega) hA (cpr (sqC n) l) (cpr_pts h2 (by omega) hl))
  have HOP : Hid ((cpr (sqC n) l).filter (sumB xs 0) = p :: rest) := Lib.hid he
  obtain ⟨ca, cc, ba, bc, rfl, htr, -⟩ := hv
  obtain ⟨hfl, a', cap', tb, hvv, hrd⟩ := trio_shape htr
  simp only [Value.slice.injEq] at hvv
  obtain ⟨rfl, -, rfl⟩ := hvv
  obtain ⟨x, y, z, hrow, -, -, -, hx, hy, hz⟩ := tri_flat (sqC_tri h2) hl
  obtain ⟨rfl, c0⟩ := hrd (l * 3) (by omega)
  have c1 := (hrd (l * 3 + 1) (by omega)).2
  have c2 := (hrd (l * 3 + 2) (by omega)).2
  rw [hx] at c0
  rw [hy] at c1
  rw [hz] at c2
  have hbl : tb < w.heap.size := own_lt htr tb rfl
  have HCP : Hid (cpr (sqC n) l = [((x : Int), (y : Int)), ((x : Int), (z : Int)), ((y : Int), (z : Int))]) := Lib.hid (cpr_of hrow)
  have hclen : (sqC n).length ≤ 1000 := by
    have := sci_len n (sqn n)
    have := sqn_le n h2
    unfold sqC; omega
  have hki : (l : Int) < ((sqC n).length : Int) := by omega
  have ho0 := own_now ho hB0
  have hp0 := wk_rooms hsz pv u v true
  have q0 := blk_cell hg1 0 (.slice (some ⟨tb, 0, none⟩) (sqC n).length cc) rfl
  have hwz := wkA_size _ pv u v true hsz
  obtain ⟨p1, p2⟩ := p
  have hrl : rest.length ≤ 3 := by
    have e := List.length_filter_le (sumB xs 0) (cpr (sqC n) l)
    rw [HOP.out, cpr_len, List.length_cons] at e
    omega
  clear ho hL hn h hb0 htr hfl hrd hx hy hz hrow hA hxl he hp0
  go_enter Try.func77, Try.ntmps77
  go_wp2_with fail
  generalize ((w.alloc (.cells (lqA n a len cap) 69)).alloc (.cells (wkA #[.slice (some ⟨tb, 0, none⟩) (sqC n).length cc, .slice ba (sqPs n).length bc, fv] pv u v true) 91)).alloc (.cells #[.int .i64 0, .int .i64 0] 89) = w1 at hB0 hg0 hg1 hz1 hs1 q6 q0 ho0 ⊢
  refine wp_region_mix (fun w' => Below w.heap.size w w' ∧ w'.heap[w.heap.size]? = some (.cells (lqA n a len cap) 69 (0, 0)) ∧ w'.heap[w.heap.size + 1]? = some (.cells (wkA #[.slice (some ⟨tb, 0, none⟩) (sqC n).length cc, .slice ba (sqPs n).length bc, fv] pv u v true) 91 (0, 0))) [4, 7, 10, 12, 13] [0, 1, 2, 3, 8, 9, 4, 5, 6, 7, 10, 11, 12, 13, 14] (by kernel_rfl) (by kernel_rfl) (fun _ _ d _ _ h => by cases d <;> exact h) (by kernel_rfl) rfl ⟨hB0.drew, hg0, hg1⟩ ?_
  refine mix_take 0 _ ?_ rfl rfl rfl (some 10) rfl (fun w' hw' => ?hv0) ?_
  case hv0 => (go_simp; with_reducible rfl)
  simp only [Act.put, List.setIfInBounds_toArray, List.set_cons_zero, List.set_cons_succ]
  refine mix_take 1 _ ?_ rfl rfl rfl (some 11) rfl (fun w' hw' => ?hv1) ?_
  case hv1 => (go_simp; with_reducible rfl)
  simp only [Act.put, List.setIfInBounds_toArray, List.set_cons_zero, List.set_cons_succ]
  refine mix_take 2 _ ?_ rfl rfl rfl (some 12) rfl (fun w' hw' => ?hv2) ?_
  case hv2 =>
    have q0' := blk_cell hw'.2.2 0 (.slice (some ⟨tb, 0, none⟩) (sqC n).length cc) rfl
    go_simp
    with_reducible rfl
  simp only [Act.put, List.setIfInBounds_toArray, List.set_cons_zero, List.set_cons_succ]
  refine mix_take 3 _ (.agg (wkA _ pv u v true)) rfl rfl rfl (some 13) rfl (fun w' hw' => exec_row _ _ rfl (w.heap.size + 1) rfl (wkA _ pv u v true) (run_loadVar_row w' _ _ _ (wkA _ pv u v true) (0, 0) _ hw'.2.2 Try.underlying91 rfl (by rw [blkWalk.size, hwz]))) ?_
  simp only [Act.put, List.setIfInBounds_toArray, List.set_cons_zero, List.set_cons_succ]
  refine mix_take 8 _ (.agg (lqA n a len cap)) rfl rfl rfl (some 18) rfl (fun w' hw' => exec_row _ _ rfl w.heap.size rfl (lqA n a len cap) (run_loadVar_row w' _ _ _ (lqA n a len cap) (0, 0) _ hw'.2.1 Try.underlying69 rfl (by rw [blkSq.size, lq_size]))) ?_
  simp only [Act.put, List.setIfInBounds_toArray, List.set_cons_zero, List.set_cons_succ]
  refine mix_take 9 _ ?_ rfl rfl rfl (some 19) rfl (fun w' hw' => ?hv9) ?_
  case hv9 => (go_simp; with_reducible rfl)
  simp only [Act.put, List.setIfInBounds_toArray, List.set_cons_zero, List.set_cons_succ]
  refine mix_call 4 _ rfl rfl rfl 95 #[.agg (wkA #[.slice (some ⟨tb, 0, none⟩) (sqC n).length cc, .slice ba (sqPs n).length bc, fv] pv u v true)] (some 14) rfl ?hr4 ?_
  case hr4 => go_simp
  refine (walkLast_any _ pv u v true base2 pre l _ hsz (own_now ho0 (Below.refl _ _).drew) hpl).mono ?_
  rintro e w2 ⟨rfl, hb2⟩
  have hB2 : Below w1.heap.size w1 w2 := (Below.refl _ _).drew.trans hb2
  refine ⟨_, rfl, ⟨bnext hB0 hB2, (hB2.block _ (by omega)).trans hg0, (hB2.block _ (by omega)).trans hg1⟩, ?_⟩
  simp only [Act.put, List.setIfInBounds_toArray, List.set_cons_zero, List.set_cons_succ]
  refine mix_take 5 _ ?_ rfl rfl rfl (some 15) rfl (fun w' hw' => ?hv5) ?_
  case hv5 => (go_simp; with_reducible rfl)
  simp only [Act.put, List.setIfInBounds_toArray, List.set_cons_zero, List.set_cons_succ]
  refine mix_take 6 _ ?_ rfl rfl rfl (some 16) rfl (fun w' hw' => ?hv6) ?_
  case hv6 =>
    have e0 := (Below.cell (p := ⟨tb, l * 3, none⟩) hw'.1 hbl).trans c0
    have e1 := (Below.cell (p := ⟨tb, l * 3 + 1, none⟩) hw'.1 hbl).trans c1
    have e2 := (Below.cell (p := ⟨tb, l * 3 + 2, none⟩) hw'.1 hbl).trans c2
    go_simp
    with_reducible rfl
  simp only [Act.put, List.setIfInBounds_toArray, List.set_cons_zero, List.set_cons_succ]
  refine mix_call 7 _ rfl rfl rfl 96 #[.agg #[.int .i64 x, .int .i64 y, .int .i64 z]] (some 17) rfl ?hr7 ?_
  case hr7 => go_simp
  refine (pairs_any x y z _).mono ?_
  rintro e w3 ⟨vv, rfl, hp3, hb3⟩
  rw [← HCP.out] at hp3
  obtain ⟨pa, pc, pb, rfl, hpr⟩ := pair_shape hp3
  have hB3 := bnext hB2 hb3
  refine ⟨_, rfl, ⟨bnext hB0 hB3, (hB3.block _ (by omega)).trans hg0, (hB3.block _ (by omega)).trans hg1⟩, ?_⟩
  simp only [Act.put, List.setIfInBounds_toArray, List.set_cons_zero, List.set_cons_succ]
  refine mix_call 10 _ rfl rfl rfl 89 #[.slice pa (cpr (sqC n) l).length pc, .func (.func 97) #[.agg (lqA n a len cap)] #[]] (some 20) rfl ?hr10 ?_
  case hr10 => go_simp
  refine (among_any _ _ _ (sumB xs 0) (cpr (sqC n) l) _ _ _ _ isOpp_cf (HAS.out _ (bnext hB0 hB3)) hpr (by rw [cpr_len]; omega)).mono ?_
  rintro e w4 ⟨vv, rfl, hp4, hb4⟩
  rw [HOP.out] at hp4
  obtain ⟨da, dc, db, rfl, hdr⟩ := pair_shape hp4
  obtain ⟨rfl, hdl, k0, k1⟩ := hdr 0 (by simp)
  rw [Nat.zero_mul] at k0 k1
  simp only [List.getD_cons_zero, Nat.zero_add] at k0 k1
  have hB4 := bnext hB3 hb4
  have hz4 := (hB4.block (w.heap.size + 1 + 1) (by omega)).trans hz1
  have hl1 : ((p1, p2) :: rest).length = rest.length + 1 := rfl
  rw [hl1]
  have hpos : (0 : Int) < ((rest.length + 1 : Nat) : Int) := by omega
  have hS4 : Below w.heap.size w w4 ∧ w4.heap[w.heap.size]? = some (.cells (lqA n a len cap) 69 (0, 0)) ∧ w4.heap[w.heap.size + 1]? = some (.cells (wkA #[.slice (some ⟨tb, 0, none⟩) (sqC n).length cc, .slice ba (sqPs n).length bc, fv] pv u v true) 91 (0, 0)) := ⟨bnext hB0 hB4, (hB4.block _ (by omega)).trans hg0, (hB4.block _ (by omega)).trans hg1⟩
  refine ⟨_, rfl, hS4, ?_⟩
  simp only [Act.put, List.setIfInBounds_toArray, List.set_cons_zero, List.set_cons_succ]
  refine mix_take 11 _ ?_ rfl rfl rfl (some 21) rfl (fun w' hw' => ?hv11) ?_
  case hv11 => (go_simp; with_reducible rfl)
  simp only [Act.put, List.setIfInBounds_toArray, List.set_cons_zero, List.set_cons_succ]
  refine mix_val 12 _ ?_ rfl rfl rfl (some 22) rfl ?hv12 ⟨hS4, ?_⟩
  case hv12 => (go_simp; with_reducible rfl)
  simp only [Act.put, List.setIfInBounds_toArray, List.set_cons_zero, List.set_cons_succ]
  refine mix_store_blk blkPair 13 _ rfl rfl rfl _ _ rfl none rfl (w.heap.size + 1 + 1) #[.int .i64 p1, .int .i64 p2] #[.int .i64 0, .int .i64 0] rfl rfl hz4 rfl rfl (pair_one _ _) w.heap.size (by omega) ?_
  intro w5 hg5 hb5 hk5 hs5
  refine ⟨⟨hS4.1.trans hb5, (hk5 _ (by omega)).trans hS4.2.1, (hk5 _ (by omega)).trans hS4.2.2⟩, ?_⟩
  simp only [Act.put]
  refine mix_take 14 _ ?_ rfl rfl rfl (some 5) rfl (fun w' hw' => ?hv14) ?_
  case hv14 => (go_simp; with_reducible rfl)
  simp only [Act.put, List.setIfInBounds_toArray, List.set_cons_zero, List.set_cons_succ]
  refine mix_done ?_
  have hBF := hS4.1.trans hb5
  clear hp3 hpr hp4 hdr hS4 hB2 hB3 hB4
  go_wp2_with fail
  exact bodyPost_ret (results_blk blkPair rfl _ _ (w.heap.size + 1 + 1) _ (.bool true) rfl rfl hg5 rfl) rfl ⟨ret_fp (o := some (p1, p2)) (p := (p1, p2)) rfl, hBF⟩
end Go.Proofs.Ytgpikaolgalpbaa
