import Derived.Test.YtcahecohjmahaaaDoorYr
namespace Go.Proofs.YtcahecohjmahaaaDoor
open Go.RowKit
set_option maxRecDepth 4000
/-- A step along the order 1, 2, -1, -2: on, back, or neither. -/
def st (x y : Int) : Int := if y = nl x then 1 else if x = nl y then -1 else 0
def stp (xs : List Int) (p : Int × Int) : Int := st (xs.getD p.1.toNat 0) (xs.getD p.2.toNat 0)
theorem st_bd (x y : Int) : -1 ≤ st x y ∧ st x y ≤ 1 := by unfold st; split <;> (try split) <;> omega
set_option maxHeartbeats 1600000 in
theorem oppOnBorder_any (n : Nat) (xs : List Int) (a : Option Addr) (b len cap : Nat) (w : World) (hn : xs.length = len) (h : Rd w a b 0 xs) (hb0 : len = 0 ∨ b < w.heap.size) (hL : sqB n xs = true) :
    Calls Tryd.prog 137 #[.agg (lqA n a len cap)] w fun e w' => ∃ v, e = .returned v ∧ PairV w' w.heap.size v ((sqPs n).filter (sumB xs 0)) ∧ Below w.heap.size w w' := by
  obtain ⟨n', hnn, h1, h2, hl, hA⟩ := sqB_nat hL
  obtain rfl : n = n' := by omega
  clear hnn
  have hg1 : (w.alloc (.cells (lqA n a len cap) 61)).heap[w.heap.size]? = some (.cells (lqA n a len cap) 61 (0, 0)) := heap_alloc_new w _
  have hs1 : (w.alloc (.cells (lqA n a len cap) 61)).heap.size = w.heap.size + 1 := by simp
  have hB1 := balloc (Below.refl w.heap.size w) (.cells (lqA n a len cap) 61)
  have HBL := Lib.hid (bol_len n (8 * n))
  have HPS : Hid (als (bol n (8 * n)) (bol n (8 * n)).length = sqPs n) := Lib.hid rfl
  have HPL := Lib.hid (sqPs_len n)
  have HAS := Lib.hid (fun W (hB : Below w.heap.size w W) => opp_asks n xs a b len cap W hn (h.later hn hb0 hB) (by have := hB.size; omega) hA (sqPs n) (fun k hk => by
    obtain ⟨i, j, e, hi, hj⟩ := sqPs_pts n h2 k hk
    exact ⟨i, j, e, by omega, by omega⟩))
  clear hL h hn hb0 hA hl
  go_enter Tryd.func137, Tryd.ntmps137
  go_wp2_with fail
  generalize w.alloc (.cells (lqA n a len cap) 61) = w1 at hg1 hs1 hB1 ⊢
  refine wp_region_mix (fun w' => w'.heap[w.heap.size]? = some (.cells (lqA n a len cap) 61 (0, 0))) [2, 3, 6] [0, 1, 4, 5, 2, 3, 6, 7] (by kernel_rfl) (by kernel_rfl) (fun _ _ d _ _ h => by cases d <;> exact h) (by kernel_rfl) rfl hg1 ?_
  refine mix_take 0 _ ?_ rfl rfl rfl (some 3) rfl (fun w' hw' => ?hv0) ?_
  case hv0 =>
    go_simp
    with_reducible rfl
  simp only [Act.put, List.setIfInBounds_toArray, List.set_cons_zero, List.set_cons_succ]
  refine mix_take 1 _ ?_ rfl rfl rfl (some 4) rfl (fun w' hw' => ?hv1) ?_
  case hv1 =>
    have q0 : w'.cell? ⟨w.heap.size, 0, none⟩ = some (.int .i64 n) := cell_of_row _ _ _ _ _ (0, 0) hw'
    go_simp
    with_reducible rfl
  simp only [Act.put, List.setIfInBounds_toArray, List.set_cons_zero, List.set_cons_succ]
  refine mix_take 4 _ (.agg (lqA n a len cap)) rfl rfl rfl (some 7) rfl (fun w' hw' => exec_row _ _ rfl w.heap.size rfl (lqA n a len cap) (run_loadVar_row w' _ _ _ (lqA n a len cap) (0, 0) _ hw' Tryd.underlying61 rfl (by rw [blkSq.size, lq_size]))) ?_
  simp only [Act.put, List.setIfInBounds_toArray, List.set_cons_zero, List.set_cons_succ]
  refine mix_take 5 _ ?_ rfl rfl rfl (some 8) rfl (fun w' hw' => ?hv5) ?_
  case hv5 =>
    go_simp
    with_reducible rfl
  simp only [Act.put, List.setIfInBounds_toArray, List.set_cons_zero, List.set_cons_succ]
  refine mix_call 2 _ rfl rfl rfl 135 #[.agg #[.int .i64 n]] (some 5) rfl ?hr2 ?_
  case hr2 => go_simp
  refine (sqBorder_any n h1 h2 _).mono ?_
  rintro e w4 ⟨v, rfl, ho4, hb4⟩
  obtain ⟨-, ba, bc, bb, rfl, hx4, hr4⟩ := own_shape ho4
  have hxx : ba = none ∨ bb < w4.heap.size := hx4.imp_right fun h => own_lt ho4 bb (by rw [h]; rfl)
  have hb4' : Below w1.heap.size w1 w4 := (Below.drew (Below.refl _ _)).trans hb4
  have hg4 := (hb4'.block w.heap.size (by omega)).trans hg1
  have hz4 := hb4'.size
  clear ho4 hb4
  refine ⟨_, rfl, hg4, ?_⟩
  simp only [Act.put, List.setIfInBounds_toArray, List.set_cons_zero, List.set_cons_succ]
  refine mix_call 3 _ rfl rfl rfl 148 #[.slice ba (bol n (8 * n)).length bc] (some 6) rfl ?hr3 ?_
  case hr3 => go_simp
  refine (pairsAlong_any (bol n (8 * n)) ba bb _ bc _ rfl hr4 hxx (by rw [HBL.out]; omega)).mono ?_
  rintro e w5 ⟨v, rfl, hp5, hb5⟩
  rw [HPS.out] at hp5
  obtain ⟨pa, pc, pb, rfl, hpr⟩ := pair_shape hp5
  have hg5 := (hb5.block w.heap.size (by omega)).trans hg4
  have hB5 := hb4'.trans (hb5.mono hz4)
  have hz5 := hB5.size
  clear hb5 hg4 hb4' hp5 hr4 hxx
  refine ⟨_, rfl, hg5, ?_⟩
  simp only [Act.put, List.setIfInBounds_toArray, List.set_cons_zero, List.set_cons_succ]
  refine mix_call 6 _ rfl rfl rfl 53 #[.slice pa (sqPs n).length pc, .func (.func 55) #[.agg (lqA n a len cap)] #[]] (some 9) rfl ?hr6 ?_
  case hr6 => go_simp
  refine (among_any _ _ _ (sumB xs 0) (sqPs n) _ _ _ _ isOpp_cf (HAS.out _ (hB1.trans (hB5.mono (by omega)))) hpr (by rw [HPL.out]; omega)).mono ?_
  rintro e w6 ⟨v, rfl, hp6, hb6⟩
  obtain ⟨sa, sc, sb, rfl, -⟩ := pair_shape hp6
  have hg6 := (hb6.block w.heap.size (by omega)).trans hg5
  have hB6 := (hB1.trans (hB5.mono (by omega))).trans (hb6.mono (by omega))
  refine ⟨_, rfl, hg6, ?_⟩
  simp only [Act.put, List.setIfInBounds_toArray, List.set_cons_zero, List.set_cons_succ]
  refine mix_take 7 _ ?_ rfl rfl rfl (some 2) rfl (fun w' hw' => ?hv7) ?_
  case hv7 =>
    go_simp
    with_reducible rfl
  simp only [Act.put, List.setIfInBounds_toArray, List.set_cons_zero, List.set_cons_succ]
  refine mix_done ?_
  go_wp2_with fail
  go_ret
  exact ⟨_, rfl, own_lo hp6 (by omega), hB6⟩
end Go.Proofs.YtcahecohjmahaaaDoor
