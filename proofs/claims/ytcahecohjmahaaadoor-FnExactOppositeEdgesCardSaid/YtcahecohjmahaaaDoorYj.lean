import Derived.Test.YtcahecohjmahaaaDoorYi
import Derived.Test.YtcahecohjmahaaaDoorZb
namespace Go.Proofs.YtcahecohjmahaaaDoor
open Go.RowKit
set_option maxRecDepth 4000
theorem bq_lt : ∀ n, n < 5 → ∀ q, q < 8 * n → 0 ≤ bq n q ∧ bq n q < (sqn n : Nat) := by decide +kernel
theorem bol_at (n m k : Nat) (hk : k < m) : (bol n m).getD k 0 = bq n k := by
  simp [bol, List.getD, hk]
theorem sqPs_len (n : Nat) : (sqPs n).length = 8 * n := by rw [sqPs, als_len, bol_len]
theorem als_at (xs : List Int) (m k : Nat) (hk : k < m) : (als xs m).getD k (0, 0) = al xs k := by
  simp [als, List.getD, hk]
theorem sqPs_at (n k : Nat) (hk : k < 8 * n) : (sqPs n).getD k (0, 0) = (bq n k, bq n ((k + 1) % (8 * n))) := by
  have hm : (k + 1) % (8 * n) < 8 * n := Nat.mod_lt _ (by omega)
  rw [sqPs, als_at _ _ _ (by rw [bol_len]; exact hk), al, bol_len, bol_at _ _ _ hk, bol_at _ _ _ hm]
/-- The points of the pairs along the border. -/
theorem sqPs_pts (n : Nat) (h2 : n ≤ 4) (k : Nat) (hk : k < (sqPs n).length) : ∃ i j : Nat, (sqPs n).getD k (0, 0) = ((i : Int), (j : Int)) ∧ i < sqn n ∧ j < sqn n := by
  rw [sqPs_len] at hk
  have hm : (k + 1) % (8 * n) < 8 * n := Nat.mod_lt _ (by omega)
  obtain ⟨a0, a1⟩ := bq_lt n (by omega) k hk
  obtain ⟨b0, b1⟩ := bq_lt n (by omega) _ hm
  rw [sqPs_at n k hk]
  exact ⟨(bq n k).toNat, (bq n ((k + 1) % (8 * n))).toNat, by rw [Int.toNat_of_nonneg a0, Int.toNat_of_nonneg b0], by omega, by omega⟩
theorem isDoor_cf (args : Array Value) (w : World) : (callFunc 149 args).run Tryd.prog w = .ok (.enter 149 args) w := by kernel_rfl
theorem isOpp_cf (args : Array Value) (w : World) : (callFunc 55 args).run Tryd.prog w = .ok (.enter 55 args) w := by kernel_rfl
/-- Pairs of points of so many. -/
def PtsB (m : Nat) (ps : List (Int × Int)) : Prop := ∀ k, k < ps.length → ∃ i j : Nat, ps.getD k (0, 0) = ((i : Int), (j : Int)) ∧ i < m ∧ j < m
theorem door_asks (n : Int) (xs : List Int) (a : Option Addr) (b len cap : Nat) (w : World) (hn : xs.length = len) (h : Rd w a b 0 xs) (hb0 : len = 0 ∨ b < w.heap.size) (hA : all4 xs = true) (ps : List (Int × Int)) (hp : PtsB len ps) :
    Asks 149 #[.agg (lqA n a len cap)] #[] (sumB xs 3) w ps := by
  intro W hW k hk
  obtain ⟨i, j, e, hi, hj⟩ := hp k hk
  rw [e]
  have := isDoor_lq n xs a b len cap i j W hn (h.later hn hb0 hW) (by have := hW.size; omega) hA hi hj
  simpa using this
theorem opp_asks (n : Int) (xs : List Int) (a : Option Addr) (b len cap : Nat) (w : World) (hn : xs.length = len) (h : Rd w a b 0 xs) (hb0 : len = 0 ∨ b < w.heap.size) (hA : all4 xs = true) (ps : List (Int × Int)) (hp : PtsB len ps) :
    Asks 55 #[.agg (lqA n a len cap)] #[] (sumB xs 0) w ps := by
  intro W hW k hk
  obtain ⟨i, j, e, hi, hj⟩ := hp k hk
  rw [e]
  have := isOppositeEdge_lq n xs a b len cap i j W hn (h.later hn hb0 hW) (by have := hW.size; omega) hA hi hj
  simpa using this
set_option maxHeartbeats 400000 in
theorem opDoor_any (xs : List Int) (i j : Nat) (a : Option Addr) (b len cap : Nat) (w : World) (hn : xs.length = len) (h : Rd w a b 0 xs) (hA : all4 xs = true) (hi : i < xs.length) (hj : j < xs.length) :
    Calls Tryd.prog 141 #[.slice a len cap, .int .i64 i, .int .i64 j] w fun e w' => e = .returned (.bool (sumB xs 3 ((i : Int), (j : Int)))) ∧ ∃ m, w' = w.drewN m := by
  subst hn
  obtain ⟨ha, ci'⟩ := h.2 i hi
  have cj' := (h.2 j hj).2
  subst ha
  have bi := all4_at hA i hi
  have bj := all4_at hA j hj
  have hm := h.1
  unfold maxLen at hm
  have HD : Hid (sumB xs 3 ((i : Int), (j : Int)) = (xs.getD i 0 + xs.getD j 0 == 3)) := Lib.hid rfl
  have hii : (i : Int) < (xs.length : Int) := by omega
  have hjj : (j : Int) < (xs.length : Int) := by omega
  rw [Nat.zero_add] at ci' cj'
  clear h hA
  generalize xs.getD i 0 = x at ci' bi HD
  generalize xs.getD j 0 = y at cj' bj HD
  go_enter Tryd.func141, Tryd.ntmps141
  go_wp2_with fail
  go_quiet (fail)
  go_wp2_with fail
  go_ret
  exact ⟨by rw [HD.out]; rfl, _, rfl⟩
/-- The pairs with this sum, as lists. -/
def outS (xs : List Int) (s : Int) (ps : List (Int × Int)) : List (List Int) := (ps.filter (sumB xs s)).map lst
theorem outS_yes (xs : List Int) (s : Int) (ps : List (Int × Int)) (i j : Int) (h : sumB xs s (i, j) = true) : outS xs s (ps ++ [(i, j)]) = outS xs s ps ++ [[i, j]] := by
  simp [outS, h, lst]
theorem outS_no (xs : List Int) (s : Int) (ps : List (Int × Int)) (i j : Int) (h : sumB xs s (i, j) = false) : outS xs s (ps ++ [(i, j)]) = outS xs s ps := by
  simp [outS, h]
theorem outS_len (xs : List Int) (s : Int) (ps : List (Int × Int)) : (outS xs s ps).length ≤ ps.length := by
  simp only [outS, List.length_map]; exact List.length_filter_le _ _
theorem outS_row (xs : List Int) (s : Int) (ps : List (Int × Int)) : ∀ i, i < (outS xs s ps).length → ((outS xs s ps).getD i []).length ≤ 1000 := by
  intro i hi
  rw [List.getD_eq_getElem?_getD, List.getElem?_eq_getElem hi]
  simp [outS, lst]
theorem sub_drewN {B : Nat} {w w' : World} (h : Below B w w') (m : Nat) : Below B w (w'.drewN m) := h.trans ((Same.refl w').drewN m B)
set_option maxHeartbeats 1600000 in
theorem opDoors_any (n : Nat) (xs : List Int) (a : Option Addr) (b len cap : Nat) (w : World) (hn : xs.length = len) (h : Rd w a b 0 xs) (hb0 : len = 0 ∨ b < w.heap.size) (hL : sqB n xs = true) :
    Calls Tryd.prog 88 #[.int .i64 n, .slice a len cap] w fun e w' => ∃ v, e = .returned v ∧ CellsV w' w.heap.size v (outS xs 3 (sqPs n)) ∧ Below w.heap.size w w' := by
  obtain ⟨h1, h2, hl, hA⟩ := sqB_yes hL
  have h1 : 1 ≤ n := by omega
  have h2 : n ≤ 4 := by omega
  rw [sqn_eq] at hl
  have hl : xs.length = sqn n := by omega
  have HD := Lib.hid (fun i j w' (hb : Below w.heap.size w w') (hi : i < xs.length) (hj : j < xs.length) => opDoor_any xs i j a b len cap w' hn (h.later hn hb0 hb) hA hi hj)
  have HBE := Lib.hid (fun q (hq : q < 8 * n) => (by have := bq_lt n (by omega) q hq; omega : 0 ≤ bq n q ∧ bq n q < (xs.length : Int)))
  have HPS : Hid (sqPs n = als (bol n (8 * n)) (8 * n)) := Lib.hid (by rw [sqPs, bol_len])
  clear h hL hA hl hn
  rw [HPS.out]
  go_enter Tryd.func88, Tryd.ntmps88
  go_wp2_with fail
  refine (opBorder_any n h1 h2 _).mono ?_
  rintro e w1 ⟨v, rfl, ho1, hb1⟩
  obtain ⟨hlen, ba, bc, bb, rfl, hx, hrd⟩ := own_shape ho1
  have hbl := hx.imp_right fun h => own_lt ho1 bb (by rw [h]; rfl)
  have HRD := Lib.hid hrd
  have hbo := bol_len n (8 * n)
  rw [hbo] at ho1
  have HBO := Lib.hid hbo
  clear hlen hrd hx ho1
  rw [HBO.out]
  go_wp2_with fail
  go_loopw [6, 14] (fun v6 v14 wr => ∃ k : Nat, k ≤ 8 * n ∧ v14 = .int .i64 k ∧ CellsV wr w1.heap.size v6 (outS xs 3 (als (bol n (8 * n)) k)) ∧ Below w1.heap.size w1 wr) (fun _ v14 _ => 8 * n - (intOf v14).toNat)
  case atStart => exact ⟨0, Nat.zero_le _, rfl, cells_nil _ _, Below.refl _ _⟩
  case round =>
    obtain ⟨k, hk, rfl, hcv, hb⟩ := hrel
    by_cases hlt : k < 8 * n
    · have hr1 := HRD.out.below hb hbl
      obtain ⟨rfl, c0⟩ := hr1.2 k (by rw [HBO.out]; exact hlt)
      have hmod : (k + 1) % (8 * n) < 8 * n := Nat.mod_lt _ (by omega)
      have c1 := (hr1.2 ((k + 1) % (8 * n)) (by rw [HBO.out]; exact hmod)).2
      rw [bol_at _ _ _ hlt, Nat.zero_add] at c0
      rw [bol_at _ _ _ hmod, Nat.zero_add] at c1
      obtain ⟨i0, i1⟩ := HBE.out k hlt
      obtain ⟨j0, j1⟩ := HBE.out _ hmod
      have hrem := rem_nat k (8 * n)
      have hmi2 : ((k : Int) + 1) % (8 * (n : Int)) < 8 * (n : Int) := Int.emod_lt_of_pos _ (by omega)
      have hmi3 : 0 ≤ ((k : Int) + 1) % (8 * (n : Int)) := Int.emod_nonneg _ (by omega)
      have HS : Hid (als (bol n (8 * n)) (k + 1) = als (bol n (8 * n)) k ++ [(bq n k, bq n ((k + 1) % (8 * n)))]) := Lib.hid (by
        rw [als_succ, al, HBO.out, bol_at _ _ _ hlt, bol_at _ _ _ hmod])
      have hbl2 := als_len (bol n (8 * n)) k
      have hol := outS_len xs 3 (als (bol n (8 * n)) k)
      have hki : (k : Int) < ((8 * n : Nat) : Int) := by omega
      have hmi : (((k + 1) % (8 * n) : Nat) : Int) < ((8 * n : Nat) : Int) := by omega
      have HW := Lib.hid (bnext hb1 hb)
      clear hr1 hbl
      generalize bq n k = i at c0 i0 i1 HS
      generalize bq n ((k + 1) % (8 * n)) = j at c1 j0 j1 HS
      obtain ⟨i, rfl⟩ := Int.eq_ofNat_of_zero_le i0
      obtain ⟨j, rfl⟩ := Int.eq_ofNat_of_zero_le j0
      obtain ⟨wi, hwi⟩ : ∃ wi : World, wi = wr := ⟨_, rfl⟩
      subst hwi
      go_wp2_with fail
      refine (HD.out i j _ HW.out (by omega) (by omega)).mono ?_
      rintro e w2 ⟨rfl, mm, rfl⟩
      have hB2 := sub_drewN hb mm
      have hc2 : CellsV (wi.drewN mm) w1.heap.size u6 (outS xs 3 (als (bol n (8 * n)) k)) := cells_now hcv (sub_drewN (Below.refl _ _) mm)
      have hz2 := hB2.size
      clear hcv hb c0 c1
      generalize wi.drewN mm = w3 at hB2 hc2 hz2 ⊢
      cases hN : sumB xs 3 ((i : Int), (j : Int))
      · have e := Lib.hid (outS_no xs 3 (als (bol n (8 * n)) k) i j hN)
        rw [← HS.out] at e
        clear hN
        go_wp2_with fail
        go_roundw
        case rel => exact ⟨k + 1, by omega, by go_num, by rw [e.out]; exact hc2, hB2⟩
        case measure => simp [intOf]; omega
      · have e := Lib.hid (outS_yes xs 3 (als (bol n (8 * n)) k) i j hN)
        rw [← HS.out] at e
        clear hN
        have hbw := balloc (Below.refl w3.heap.size w3) (.cells #[.int .i64 i, .int .i64 j] 3)
        have hu : (w3.alloc (.cells #[.int .i64 i, .int .i64 j] 3)).ownsRow w3.heap.size 3 1 (.slice (some ⟨w3.heap.size, 0, none⟩) 2 2) [(i : Int), (j : Int)].length ([(i : Int), (j : Int)].map (Value.int .i64)) :=
          own_block (Nat.le_refl _) (heap_alloc_new _ _) (by simp) rfl (by simp [maxLen])
        go_wp2_with (at_builtin; refine append_row w1.heap.size _ w3 _ _ _ (outS xs 3 (als (bol n (8 * n)) k)) _ rfl _ _ rfl rfl rfl (by simp) hc2 hbw hu rfl hz2 (by omega) ?_; intro v' w5 hc5 hb5)
        go_roundw
        case rel => exact ⟨k + 1, by omega, by go_num, by rw [e.out]; exact hc5, (balloc hB2 _).trans hb5⟩
        case measure => simp [intOf]; omega
    · have hk2 : k = 8 * n := by omega
      rw [hk2] at hcv
      clear hk2
      obtain ⟨sa, sm, sc, rfl⟩ := cells_shape hcv
      go_wp2_with fail
      go_ret
      exact ⟨_, rfl, cells_base hcv hb1.size, bnext hb1 hb⟩
end Go.Proofs.YtcahecohjmahaaaDoor
