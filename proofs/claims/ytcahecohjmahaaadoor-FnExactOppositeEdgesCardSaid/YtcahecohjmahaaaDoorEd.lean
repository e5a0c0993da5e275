import Derived.Test.YtcahecohjmahaaaDoorEe
namespace Go.Proofs.YtcahecohjmahaaaDoor
open Go.RowKit
set_option maxRecDepth 4000
theorem oe_eq {n : Nat} {xs : List Int} (hL : sqB n xs = true) : outOE n xs = ((nbp n (sqn n)).filter (sumB xs 0)).map lst := by
  obtain ⟨n', hnn, h1, h2, hl, hA⟩ := sqB_nat hL
  obtain rfl : n = n' := by omega
  rw [outOE, if_pos hL, hl, outE, ← nb_eq n (by omega), List.filter_filter]
  congr 1
  refine List.filter_congr fun p _ => ?_
  rw [oeF, Bool.and_comm]
theorem nb_bds {n : Nat} (h2 : n ≤ 4) : PtsB (sqn n) (nbp n (sqn n)) := fun k hk => by
  have e := List.all_eq_true.1 (nb_pts n (by omega)) _ (by rw [List.getD_eq_getElem?_getD, List.getElem?_eq_getElem hk]; exact List.getElem_mem hk : (nbp n (sqn n)).getD k (0, 0) ∈ nbp n (sqn n))
  simp only [decide_eq_true_eq] at e
  obtain ⟨a0, a1, b0, b1⟩ := e
  exact ⟨((nbp n (sqn n)).getD k (0, 0)).1.toNat, ((nbp n (sqn n)).getD k (0, 0)).2.toNat, by rw [Int.toNat_of_nonneg a0, Int.toNat_of_nonneg b0], by omega, by omega⟩
set_option maxHeartbeats 3200000 in
theorem implOppositeEdges (n : Int) (xs : List Int) (a : Option Addr) (b len cap : Nat) (w : World) (hv : SqV w) (hn : xs.length = len) (hsm : len ≤ 1048576) (h : Rd w a b 0 xs) (hb0 : len = 0 ∨ b < w.heap.size) :
    Calls Tryd.prog 14 #[.int .i64 n, .slice a len cap] w (CGives w (outOE n xs) (sqB n xs)) := by
  cases hL : sqB n xs
  · have H1 : Hid (outOE n xs = []) := Lib.hid (by simp [outOE, hL])
    have HR := Lib.hid (lsqOf_no n xs a b len cap w hn h hb0 hsm hL)
    rw [H1.out]
    clear hL hn h hb0 hv
    go_enter Tryd.func14, Tryd.ntmps14
    go_wp2_with fail
    refine HR.out.mono ?_
    rintro e w1 ⟨rfl, hb1⟩
    unfold lq0
    go_wp2_with fail
    go_ret2
    exact cgives_none (balloc hb1 _)
  · have HR := Lib.hid (lsqOf_yes n xs a b len cap w hn h hb0 hsm hL)
    obtain ⟨n, rfl, h1, h2, hl, hA⟩ := sqB_nat hL
    have HO := Lib.hid (oe_eq hL)
    have HAS := Lib.hid (fun W (hB : Below w.heap.size w W) => opp_asks n xs a b len cap W hn (h.later hn hb0 hB) (by have := hB.size; omega) hA (nbp n (sqn n)) (by have e := nb_bds h2; rwa [show sqn n = len by omega] at e ⊢))
    have HV := Lib.hid (fun W (hB : Below w.heap.size w W) => sqv_later hv hB)
    have hnl := nbp_len (n : Int) (sqn n)
    have hsl := sqn_le n h2
    have HNL : Hid ((nbp (n : Int) (sqn n)).length ≤ 243) := Lib.hid (by omega)
    have HFL : Hid (((nbp (n : Int) (sqn n)).filter (sumB xs 0)).length ≤ 243) := Lib.hid (Nat.le_trans (List.length_filter_le _ _) (by omega))
    rw [HO.out]
    clear hL hn h hb0 hv hnl hsl hl hA
    go_enter Tryd.func14, Tryd.ntmps14
    go_wp2_with fail
    refine HR.out.mono ?_
    rintro e w0 ⟨rfl, hb0⟩
    have hg1 := heap_alloc_new w0 (.cells (lqA n a len cap) 61)
    have hB1 := balloc hb0 (.cells (lqA n a len cap) 61)
    have hs1 : (w0.alloc (.cells (lqA n a len cap) 61)).heap.size = w0.heap.size + 1 := by simp
    have hz0 := hb0.size
    clear hb0
    obtain ⟨lq, hlq⟩ : ∃ lq, lq = lqA n a len cap := ⟨_, rfl⟩
    unfold lqA
    go_wp2_with fail
    rw [show (#[.int .i64 n, .iface 167 (.slice a len cap)] : Array Value) = lqA n a len cap from rfl]
    generalize w0.alloc (.cells (lqA n a len cap) 61) = w1 at hg1 hB1 hs1 ⊢
    refine wp_region_mix (fun w' => w'.heap[w0.heap.size]? = some (.cells (lqA n a len cap) 61 (0, 0))) [2, 5, 6] [0, 1, 3, 4, 2, 5, 6, 7, 8] (by kernel_rfl) (by kernel_rfl) (fun _ _ d _ _ h => by cases d <;> exact h) (by kernel_rfl) rfl hg1 ?_
    refine mix_take 0 _ ?_ rfl rfl rfl (some 16) rfl (fun w' hw' => ?hv0) ?_
    case hv0 =>
      go_simp
      with_reducible rfl
    simp only [Act.put, List.setIfInBounds_toArray, List.set_cons_zero, List.set_cons_succ]
    refine mix_take 1 _ ?_ rfl rfl rfl (some 17) rfl (fun w' hw' => ?hv1) ?_
    case hv1 =>
      have q0 : w'.cell? ⟨w0.heap.size, 0, none⟩ = some (.int .i64 n) := cell_of_row _ _ _ _ _ (0, 0) hw'
      go_simp
      with_reducible rfl
    simp only [Act.put, List.setIfInBounds_toArray, List.set_cons_zero, List.set_cons_succ]
    refine mix_take 3 _ (.agg (lqA n a len cap)) rfl rfl rfl (some 19) rfl (fun w' hw' => exec_row _ _ rfl w0.heap.size rfl (lqA n a len cap) (run_loadVar_row w' _ _ _ (lqA n a len cap) (0, 0) _ hw' Tryd.underlying61 rfl (by rw [blkSq.size, lq_size]))) ?_
    simp only [Act.put, List.setIfInBounds_toArray, List.set_cons_zero, List.set_cons_succ]
    refine mix_take 4 _ ?_ rfl rfl rfl (some 20) rfl (fun w' hw' => ?hv4) ?_
    case hv4 =>
      go_simp
      with_reducible rfl
    simp only [Act.put, List.setIfInBounds_toArray, List.set_cons_zero, List.set_cons_succ]
    refine mix_call 2 _ rfl rfl rfl 54 #[.agg #[.int .i64 n]] (some 18) rfl ?hr2 ?_
    case hr2 => go_simp
    refine (neighbours_any n h1 h2 _ (HV.out _ hB1.drew)).mono ?_
    rintro e w2 ⟨v, rfl, hp2, hb2⟩
    obtain ⟨pa, pc, pb, rfl, hpr⟩ := pair_shape hp2
    have hB2 : Below w1.heap.size w1 w2 := (Below.refl _ _).drew.trans hb2
    have hg2 := (hB2.block w0.heap.size (by omega)).trans hg1
    refine ⟨_, rfl, hg2, ?_⟩
    simp only [Act.put, List.setIfInBounds_toArray, List.set_cons_zero, List.set_cons_succ]
    refine mix_call 5 _ rfl rfl rfl 53 #[.slice pa (nbp (n : Int) (sqn n)).length pc, .func (.func 55) #[.agg (lqA n a len cap)] #[]] (some 21) rfl ?hr5 ?_
    case hr5 => go_simp
    refine (among_any _ _ _ (sumB xs 0) (nbp (n : Int) (sqn n)) _ _ _ _ isOpp_cf (HAS.out _ (bnext hB1 hB2)) hpr (by have := HNL.out; omega)).mono ?_
    rintro e w3 ⟨v, rfl, hp3, hb3⟩
    obtain ⟨da, dc, db, rfl, hdr⟩ := pair_shape hp3
    have hB3 := bnext hB2 hb3
    have hg3 := (hB3.block w0.heap.size (by omega)).trans hg1
    refine ⟨_, rfl, hg3, ?_⟩
    simp only [Act.put, List.setIfInBounds_toArray, List.set_cons_zero, List.set_cons_succ]
    refine mix_call 6 _ rfl rfl rfl 52 #[.slice da ((nbp (n : Int) (sqn n)).filter (sumB xs 0)).length dc] (some 22) rfl ?hr6 ?_
    case hr6 => go_simp
    refine (listsOf_any _ da db dc _ hdr (by have := HFL.out; omega)).mono ?_
    rintro e w4 ⟨v, rfl, hc4, hb4⟩
    obtain ⟨ta, tm, tc, rfl⟩ := cells_shape hc4
    have hB4 := bnext hB3 hb4
    have hg4 := (hB4.block w0.heap.size (by omega)).trans hg1
    refine ⟨_, rfl, hg4, ?_⟩
    simp only [Act.put, List.setIfInBounds_toArray, List.set_cons_zero, List.set_cons_succ]
    refine mix_take 7 _ ?_ rfl rfl rfl (some 4) rfl (fun w' hw' => ?hv7) ?_
    case hv7 =>
      go_simp
      with_reducible rfl
    simp only [Act.put, List.setIfInBounds_toArray, List.set_cons_zero, List.set_cons_succ]
    refine mix_take 8 _ ?_ rfl rfl rfl (some 5) rfl (fun w' hw' => ?hv8) ?_
    case hv8 =>
      go_simp
      with_reducible rfl
    simp only [Act.put, List.setIfInBounds_toArray, List.set_cons_zero, List.set_cons_succ]
    refine mix_done ?_
    have hs3 := hB3.size
    go_wp2_with fail
    go_ret2
    exact ⟨_, rfl, cells_base hc4 (by omega), bnext hB1 hB4⟩
theorem outOE_len (n : Int) (xs : List Int) : (outOE n xs).length ≤ 100000 := by
  unfold outOE
  split
  · rename_i hL
    obtain ⟨m, rfl, h1, h2, hl, -⟩ := sqB_nat hL
    have e1 := outE_len (m : Int) xs (apn xs.length xs.length)
    have e2 := apn_len xs.length xs.length
    have e3 := sqn_le m h2
    have e4 : xs.length * xs.length ≤ 81 * 81 := Nat.mul_le_mul (by omega) (by omega)
    omega
  · simp
theorem outOE_row (n : Int) (xs : List Int) : ∀ i, i < (outOE n xs).length → ((outOE n xs).getD i []).length ≤ 1000 := by
  intro i hi
  unfold outOE at hi ⊢
  split
  · rename_i h; rw [if_pos h] at hi; exact outE_row _ _ _ i hi
  · rename_i h; rw [if_neg h] at hi; simp at hi
end Go.Proofs.YtcahecohjmahaaaDoor
