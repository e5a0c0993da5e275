import Derived.Test.YtjbdhgomcchoaaaBp
namespace Go.Proofs.Ytjbdhgomcchoaaa
open Go.RowKit
theorem made_pairs (m : Nat) : (madeCells (Value.agg #[.int .i64 0, .int .i64 0]).cells (m * 2)).toList = pfl (List.replicate m (0, 0)) := by
  have e : ∀ m, pfl (List.replicate m ((0 : Int), (0 : Int))) = List.replicate (m * 2) (Value.int .i64 0) := by
    intro m
    induction m with
    | zero => rfl
    | succ m ih =>
      rw [show (m + 1) * 2 = m * 2 + 1 + 1 by omega, List.replicate_succ, List.replicate_succ, List.replicate_succ, ← ih]
      rfl
  rw [e]
  apply List.ext_getElem?
  intro i
  simp only [madeCells, Value.cells, List.getElem?_replicate]
  by_cases h : i < m * 2
  · have h2 : i % 2 = 0 ∨ i % 2 = 1 := by omega
    rcases h2 with h2 | h2 <;> simp [h, h2]
  · simp [h]
theorem pfl_set (ps : List (Int × Int)) (x y : Int) : ∀ k, ((pfl ps).set (k * 2) (.int .i64 x)).set (k * 2 + 1) (.int .i64 y) = pfl (ps.set k (x, y)) := by
  induction ps with
  | nil => intro k; simp [pfl]
  | cons p ps ih =>
    intro k
    match k with
    | 0 => rfl
    | k + 1 =>
      have e := ih k
      rw [show (k + 1) * 2 = k * 2 + 2 by omega]
      simp only [pfl, List.flatMap_cons, List.set_cons_succ, List.cons_append, List.nil_append] at e ⊢
      rw [e]
/-- The first k steps of the border, and noughts behind them. -/
def bpz (n k : Nat) : List (Int × Int) := (List.range (3 * n)).map fun i => if i < k then bp n i else (0, 0)
theorem bpz_len (n k : Nat) : (bpz n k).length = 3 * n := by simp [bpz]
theorem bpz_at (n k i : Nat) : (bpz n k)[i]? = if i < 3 * n then some (if i < k then bp n i else (0, 0)) else none := by
  simp only [bpz, List.getElem?_map]
  by_cases h : i < 3 * n
  · rw [List.getElem?_range h, if_pos h]; rfl
  · rw [List.getElem?_eq_none (by simpa using h), if_neg h]; rfl
theorem bpz_zero (n : Nat) : bpz n 0 = List.replicate (3 * n) (0, 0) := by
  apply List.ext_getElem?
  intro i
  rw [bpz_at, List.getElem?_replicate]
  simp
theorem bpz_all (n : Nat) : bpz n (3 * n) = bps n (3 * n) := by
  apply List.ext_getElem?
  intro i
  rw [bpz_at]
  simp only [bps, List.getElem?_map]
  by_cases h : i < 3 * n
  · rw [List.getElem?_range h, if_pos h, if_pos h]; rfl
  · rw [List.getElem?_eq_none (by simpa using h), if_neg h]; rfl
theorem bpz_set (n k : Nat) (hk : k < 3 * n) : (bpz n k).set k (bp n k) = bpz n (k + 1) := by
  apply List.ext_getElem?
  intro i
  rw [List.getElem?_set, bpz_at, bpz_at, bpz_len]
  by_cases h1 : k = i
  · subst h1
    rw [if_pos rfl, if_pos hk, if_pos hk, if_pos (by omega)]
  · rw [if_neg h1]
    by_cases h2 : i < 3 * n
    · rw [if_pos h2, if_pos h2]
      by_cases h3 : i < k
      · rw [if_pos h3, if_pos (by omega)]
      · rw [if_neg h3, if_neg (by omega)]
    · rw [if_neg h2, if_neg h2]
set_option maxHeartbeats 1600000 in
theorem borderPairs_any (n : Nat) (h1 : 1 ≤ n) (h2 : n ≤ 8) (w : World) :
    Calls Try.prog 92 #[.agg #[.int .i64 n]] w fun e w' => ∃ v, e = .returned v ∧ PairV w' w.heap.size v (bps n (3 * n)) ∧ Below w.heap.size w w' := by
  obtain ⟨i0, hi, hz0, hz1, hz2⟩ := info_parts pairInfo
  go_enter Try.func92, Try.ntmps92
  go_wp2_with fail
  refine (border_any n h1 h2 _).mono ?_
  rintro e w1 ⟨v, rfl, ho1, hb1⟩
  obtain ⟨hlen, ba, bc, bb, rfl, hx, hrd⟩ := own_shape ho1
  have hbl := hx.imp_right fun h => own_lt ho1 bb (by rw [h]; rfl)
  have HRD := Lib.hid hrd
  have HBO := Lib.hid (bor_len n (3 * n))
  have hB1 := bnext (balloc (Below.refl w.heap.size w) (.cells #[.int .i64 n] 51)) hb1
  clear hlen hrd hx ho1 hb1
  rw [HBO.out]
  have hz1' := hB1.size
  go_wp2_with (at_make; refine wpList_make_full _ rfl _ _ 72 rfl w1.heap.size 70 i0 (.agg #[.int .i64 0, .int .i64 0]) 2 Try.underlying72 hi hz0 hz1 _ _ _ _ (3 * n) rfl rfl ?hC ?hL ?hb2 ?hb3 ?hb4 ?_)
  case hC => rfl
  case hL => rfl
  case hb2 => rw [hz2]; omega
  case hb3 => unfold maxLen; omega
  case hb4 => exact Nat.le_refl _
  intro w2 ho2 hg2
  have hp2 : PairV w2 w1.heap.size (.slice (some ⟨w1.heap.size, 0, none⟩) (3 * n) (3 * n)) (bpz n 0) := by
    unfold PairV
    rw [bpz_zero, List.length_replicate, ← made_pairs]
    exact ho2
  have hB2 : Below w1.heap.size w1 w2 := (Below.refl _ _).grown hg2 (Nat.le_refl _) (fun k hk => by cases hk)
  clear ho2 hg2
  go_wp2_with fail
  go_loopw [14] (fun v14 wr => ∃ k : Nat, k ≤ 3 * n ∧ v14 = .int .i64 k ∧ PairV wr w1.heap.size (.slice (some ⟨w1.heap.size, 0, none⟩) (3 * n) (3 * n)) (bpz n k) ∧ Below w1.heap.size w1 wr) (fun v14 _ => 3 * n - (intOf v14).toNat)
  case atStart => exact ⟨0, Nat.zero_le _, rfl, hp2, hB2⟩
  case round =>
    clear hp2 hB2
    obtain ⟨k, hk, rfl, hp, hb⟩ := hrel
    by_cases hlt : k < 3 * n
    · have hr1 := HRD.out.below hb hbl
      obtain ⟨rfl, c0⟩ := hr1.2 k (by rw [HBO.out]; exact hlt)
      have hmod : (k + 1) % (3 * n) < 3 * n := Nat.mod_lt _ (by omega)
      have c1 := (hr1.2 ((k + 1) % (3 * n)) (by rw [HBO.out]; exact hmod)).2
      rw [bor_at _ _ _ hlt, Nat.zero_add] at c0
      rw [bor_at _ _ _ hmod, Nat.zero_add] at c1
      have hrem := rem_nat k (3 * n)
      have hmi2 : ((k : Int) + 1) % (3 * (n : Int)) < 3 * (n : Int) := Int.emod_lt_of_pos _ (by omega)
      have hmi3 : 0 ≤ ((k : Int) + 1) % (3 * (n : Int)) := Int.emod_nonneg _ (by omega)
      have hki : (k : Int) < ((3 * n : Nat) : Int) := by omega
      have hmi : (((k + 1) % (3 * n) : Nat) : Int) < ((3 * n : Nat) : Int) := by omega
      have hown : wr.ownsRow w1.heap.size 70 2 (.slice (some ⟨w1.heap.size, 0, none⟩) (3 * n) (3 * n)) (3 * n) (pfl (bpz n k)) := by
        have e : PairV wr w1.heap.size (.slice (some ⟨w1.heap.size, 0, none⟩) (3 * n) (3 * n)) (bpz n k) := hp
        unfold PairV at e
        rwa [bpz_len] at e
      have hpa := pfl_at (bpz n k) k (by rw [bpz_len]; exact hlt)
      have o0 := (hown.cellAt (k * 2) (by omega)).trans hpa.1
      have o1 := (hown.cellAt (k * 2 + 1) (by omega)).trans hpa.2
      have f0 := hown.frozenAt (k * 2)
      have f1 := hown.frozenAt (k * 2 + 1)
      have HNEW : Hid (∀ x y, PairV ((wr.setCell ⟨w1.heap.size, k * 2, none⟩ (.int .i64 x)).setCell ⟨w1.heap.size, k * 2 + 1, none⟩ (.int .i64 y)) w1.heap.size (.slice (some ⟨w1.heap.size, 0, none⟩) (3 * n) (3 * n)) ((bpz n k).set k (x, y))) := Lib.hid (fun x y => by
        unfold PairV
        rw [List.length_set, bpz_len, ← pfl_set]
        exact ((hown.stored (k * 2) _).1.stored (k * 2 + 1) _).1)
      have HE : Hid ((bpz n k).set k (((be n k : Nat) : Int), ((be n ((k + 1) % (3 * n)) : Nat) : Int)) = bpz n (k + 1)) := Lib.hid (bpz_set n k hlt)
      clear hr1 hbl hp hown hpa
      generalize hold0 : ((bpz n k).getD k (0, 0)).1 = u0 at o0
      generalize hold1 : ((bpz n k).getD k (0, 0)).2 = u1 at o1
      clear hold0 hold1
      generalize be n k = i at c0 HE
      generalize be n ((k + 1) % (3 * n)) = j at c1 HE
      go_wp2_with fail
      go_roundw
      case rel => exact ⟨k + 1, by omega, by go_num, by rw [← HE.out]; exact HNEW.out _ _, (hb.setCell (p := ⟨w1.heap.size, k * 2, none⟩) (Nat.le_refl _) _).setCell (p := ⟨w1.heap.size, k * 2 + 1, none⟩) (Nat.le_refl _) _⟩
      case measure => simp [intOf]; omega
    · have hk2 : k = 3 * n := by omega
      rw [hk2, bpz_all] at hp
      clear hk2
      go_wp2_with fail
      go_ret
      exact ⟨_, rfl, World.ownsRow.mono hp hz1', bnext hB1 hb⟩
set_option maxHeartbeats 1600000 in
theorem borderDoors_any (n : Nat) (xs : List Int) (base : Nat) (r : Array Value) (w : World) (hL : labB n xs = true) (hrv : RoomsV w base n xs r) :
    Calls Try.prog 67 #[.agg r] w fun e w' => ∃ v, e = .returned v ∧ PairV w' w.heap.size v ((bps n (3 * n)).filter (drB xs)) ∧ Below w.heap.size w w' := by
  obtain ⟨h1, h2, hl, -⟩ := labB_yes hL
  obtain ⟨hsz, hone, r0, -⟩ := rooms_row hL hrv
  have HL := Lib.hid hL
  have HRV := Lib.hid hrv
  have HPT : Hid (Pts xs.length (bps n (3 * n))) := Lib.hid (fun t ht => by
    rw [bps_len] at ht
    refine ⟨be n t, be n ((t + 1) % (3 * n)), ?_, ?_, ?_⟩
    · simp [bps, bp, List.getD, ht]
    · have := be_lt n (by omega) t ht; omega
    · have := be_lt n (by omega) ((t + 1) % (3 * n)) (Nat.mod_lt _ (by omega)); omega)
  have hb0 := balloc (Below.refl w.heap.size w) (.cells r 66)
  have hg1 := heap_alloc_new w (.cells r 66)
  have hz1 : (w.alloc (.cells r 66)).heap.size = w.heap.size + 1 := by simp
  clear hL hrv hl
  go_enter Try.func67, Try.ntmps67
  go_wp2_with fail
  generalize w.alloc (.cells r 66) = w1 at hb0 hg1 hz1 ⊢
  refine wp_region_mix (fun w' => Below w1.heap.size w1 w') [4, 5] [0, 1, 2, 3, 4, 5, 6] (by kernel_rfl) (by kernel_rfl) (fun _ _ d _ _ h => by cases d <;> exact h) (by kernel_rfl) rfl (Below.refl _ _).drew ?_
  refine mix_take 0 _ (.agg r) rfl rfl rfl (some 3) rfl (fun w' hw' => exec_row _ _ rfl w.heap.size rfl r (run_loadVar_row w' _ _ _ r (0, 0) _ ((Below.block hw' _ (by omega)).trans hg1) Try.underlying66 rfl (by rw [rmSize, hsz]))) ?_
  simp only [Act.put, List.setIfInBounds_toArray, List.set_cons_zero, List.set_cons_succ]
  refine mix_take 1 _ ?_ rfl rfl rfl (some 4) rfl (fun w' hw' => ?hv1) ?_
  case hv1 => (go_simp; with_reducible rfl)
  simp only [Act.put, List.setIfInBounds_toArray, List.set_cons_zero, List.set_cons_succ]
  refine mix_take 2 _ ?_ rfl rfl rfl (some 5) rfl (fun w' hw' => ?hv2) ?_
  case hv2 => (go_simp; with_reducible rfl)
  simp only [Act.put, List.setIfInBounds_toArray, List.set_cons_zero, List.set_cons_succ]
  refine mix_take 3 _ ?_ rfl rfl rfl (some 6) rfl (fun w' hw' => ?hv3) ?_
  case hv3 =>
    have q : w'.cell? ⟨w.heap.size, 0, none⟩ = some (.int .i64 n) := (cell_of_row _ _ _ _ _ (0, 0) ((Below.block hw' _ (by omega)).trans hg1)).trans r0
    go_simp
    with_reducible rfl
  simp only [Act.put, List.setIfInBounds_toArray, List.set_cons_zero, List.set_cons_succ]
  refine mix_call 4 _ rfl rfl rfl 92 #[.agg #[.int .i64 n]] (some 7) rfl ?hr4 ?_
  case hr4 => go_simp
  refine (borderPairs_any n h1 h2 _).mono ?_
  rintro e w2 ⟨v, rfl, hp2, hb2⟩
  obtain ⟨pa, pc, pb, rfl, hpr⟩ := pair_shape hp2
  have hB2 : Below w1.heap.size w1 w2 := (Below.refl _ _).drew.trans hb2
  refine ⟨_, rfl, hB2, ?_⟩
  simp only [Act.put, List.setIfInBounds_toArray, List.set_cons_zero, List.set_cons_succ]
  refine mix_call 5 _ rfl rfl rfl 64 #[.agg r, .slice pa (bps n (3 * n)).length pc] (some 8) rfl ?hr5 ?_
  case hr5 => go_simp
  have hB02 := bnext hb0 hB2
  refine (doorsAmong_any n xs base r (bps n (3 * n)) pa pb pc w2 HL.out (rooms_now HRV.out hB02) HPT.out hpr (by rw [bps_len]; omega)).mono ?_
  rintro e w3 ⟨v, rfl, hp3, hb3⟩
  obtain ⟨da, dc, db, rfl, -⟩ := pair_shape hp3
  have hB3 := bnext hB2 hb3
  refine ⟨_, rfl, hB3, ?_⟩
  simp only [Act.put, List.setIfInBounds_toArray, List.set_cons_zero, List.set_cons_succ]
  refine mix_take 6 _ ?_ rfl rfl rfl (some 2) rfl (fun w' hw' => ?hv6) ?_
  case hv6 => (go_simp; with_reducible rfl)
  simp only [Act.put, List.setIfInBounds_toArray, List.set_cons_zero, List.set_cons_succ]
  refine mix_done ?_
  have hB03 := bnext hb0 hB3
  have hz03 := hB02.size
  clear hp2 hpr hg1
  go_wp2_with fail
  go_ret
  exact ⟨_, rfl, World.ownsRow.mono hp3 hz03, hB03⟩
end Go.Proofs.Ytjbdhgomcchoaaa
