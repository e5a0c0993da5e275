import Derived.RegionTactic
import Derived.Test.YtncpnkcdjfohgaaDoorMb1
import Derived.Test.YtncpnkcdjfohgaaDoorMb9
import Derived.Test.YtncpnkcdjfohgaaDoorMb0
namespace Go.Proofs.YtncpnkcdjfohgaaDoor
open Go.RowKit
set_option maxRecDepth 4000
/-- Numbers as an array of so many cells. -/
def arrF (m : Nat) (f : Nat → Int) : Array Value := ((List.range m).map fun q => Value.int .i64 (f q)).toArray
theorem arrF_size (m : Nat) (f : Nat → Int) : (arrF m f).size = m := by simp [arrF]
theorem arrF_one (m : Nat) (f : Nat → Int) : (arrF m f).all (·.oneCell') = true := by
  simp only [arrF, List.all_toArray, List.all_map, List.all_eq_true]
  exact fun _ _ => rfl
theorem arrF_at (m : Nat) (f : Nat → Int) (q : Nat) (h : q < m) : (arrF m f)[q]? = some (.int .i64 (f q)) := by
  simp only [arrF, List.getElem?_toArray]
  rw [List.getElem?_map, List.getElem?_range h]
  rfl
theorem arrF_congr (m : Nat) {f g : Nat → Int} (h : ∀ q, q < m → f q = g q) : arrF m f = arrF m g := by
  unfold arrF
  congr 1
  exact List.map_congr_left fun q hq => by rw [h q (by simpa using hq)]
theorem arrF_set (m : Nat) (f : Nat → Int) (q : Nat) (x : Int) (h : q < m) : (arrF m f).setIfInBounds q (.int .i64 x) = arrF m (fun p => if p = q then x else f p) := by
  apply Array.ext_getElem?
  intro i
  rw [Array.getElem?_setIfInBounds]
  by_cases e : q = i
  · subst e
    rw [if_pos rfl, if_pos (by rw [arrF_size]; exact h), arrF_at _ _ _ h, if_pos rfl]
  · rw [if_neg e]
    by_cases hp : i < m
    · rw [arrF_at _ _ _ hp, arrF_at _ _ _ hp, if_neg (by omega)]
    · rw [Array.getElem?_eq_none (by rw [arrF_size]; omega), Array.getElem?_eq_none (by rw [arrF_size]; omega)]
def zeroO : Array Value := arrF 9 fun _ => 0
theorem zeroO_size : zeroO.size = 9 := arrF_size _ _
theorem zeroO_one : zeroO.all (·.oneCell') = true := arrF_one _ _
theorem blkOff : Blk 70 9 := ⟨.inr ⟨_, _, Tryd.underlying70⟩, by kernel_rfl⟩
theorem run_alloc_off (w : World) : (Instr.alloc 70 true (.tuple #[])).run Tryd.prog w = .ok (.pointer (some ⟨w.heap.size, 0, none⟩)) (w.alloc (.cells zeroO 70)) := by kernel_rfl
/-- What each piece at a point is worth to each person, by the cell where it lies. -/
def wof (ts : List (List Int)) (n i q : Nat) : Int := worth (ts.getD (q / 3) []) n i (q % 3)
def offA (ts : List (List Int)) (n i : Nat) : Array Value := arrF 9 (wof ts n i)
theorem offA_size (ts : List (List Int)) (n i : Nat) : (offA ts n i).size = 9 := arrF_size _ _
theorem offA_one (ts : List (List Int)) (n i : Nat) : (offA ts n i).all (·.oneCell') = true := arrF_one _ _
theorem tv_bd {n : Nat} {ts : List (List Int)} (h : rowsB n 9 ts = true) (q : Nat) : 0 ≤ tv ts q ∧ tv ts q ≤ 9 := by
  obtain ⟨h3, hr⟩ := rowsB_at h
  exact getD_bd (by omega) (by omega) (hr (q % 3) (by omega)).2 _
theorem sf_sl (ts : List (List Int)) (b p : Nat) (hp : p < 3) : ∀ k, sf (fun q => tv ts (3 * b + q)) p k = sl (ts.getD p []) b k
  | 0 => by rw [sf, sl_zero]
  | k + 1 => by
    rw [sf, sf_sl ts b p hp k, sl_succ, tv, show (3 * b + (3 * k + p)) % 3 = p by omega, show (3 * b + (3 * k + p)) / 3 = b + k by omega]
theorem idx3' (a b c : Int) (y : Nat) (hy : y < 3) (w : World) : (Instr.index 75 (.agg #[.int .i64 a, .int .i64 b, .int .i64 c]) (.int .i64 y)).run Tryd.prog w = .ok (.int .i64 ([a, b, c].getD y 0)) w := by
  rcases (show y = 0 ∨ y = 1 ∨ y = 2 by omega) with rfl | rfl | rfl
  · exact (show (Instr.index 75 (.agg #[.int .i64 a, .int .i64 b, .int .i64 c]) (.int .i64 0)).run Tryd.prog w = .ok (.int .i64 a) w by kernel_rfl)
  · exact (show (Instr.index 75 (.agg #[.int .i64 a, .int .i64 b, .int .i64 c]) (.int .i64 1)).run Tryd.prog w = .ok (.int .i64 b) w by kernel_rfl)
  · exact (show (Instr.index 75 (.agg #[.int .i64 a, .int .i64 b, .int .i64 c]) (.int .i64 2)).run Tryd.prog w = .ok (.int .i64 c) w by kernel_rfl)
set_option maxHeartbeats 3200000 in
theorem offersAt_any (n i : Nat) (h1 : 1 ≤ n) (h2 : n ≤ 8) (hi : i < Pr.cnt n) (ts : List (List Int)) (hy : rowsB n 9 ts = true) (w : World) :
    Calls Tryd.prog 56 #[.agg (cakeA n ts), .agg #[.int .i64 ((n : Int) - (Pr.R i : Nat)), .int .i64 ((Pr.R i : Int) - (Pr.C i : Nat)), .int .i64 (Pr.C i : Nat)]] w fun e w' => e = .returned (.agg (offA ts n i)) ∧ Below w.heap.size w w' := by
  have hc := (Pr.cnt_le n (by omega)).1
  have hR := Pr.R_le_of_lt n (by omega) i hi
  have hC := (Pr.RC_bd i (by omega)).1
  have HSZ : Hid (∀ k, k < 3 → ([(n : Int) - (Pr.R i : Nat), (Pr.R i : Int) - (Pr.C i : Nat), (Pr.C i : Nat)] : List Int).getD k 0 = (sz3 n i k : Nat)) := Lib.hid (fun k hk => sz3_pt n i k hR hC hk)
  have HPS := Lib.hid (fun k hk => pre3_succ n i k hR hC hk)
  have HPL := Lib.hid (fun k hk => pre3_le n i k hR hC hk)
  have HTB := Lib.hid (tv_bd hy)
  clear hy hC hR
  generalize (n : Int) - (Pr.R i : Nat) = ea at *
  generalize (Pr.R i : Int) - (Pr.C i : Nat) = eb at *
  generalize ((Pr.C i : Nat) : Int) = ec at *
  have HCA : Hid (∀ q, q < 24 → (cakeA n ts)[1 + q]? = some (.int .i64 (tv ts q))) := Lib.hid (fun q hq => cakeF_at n (tv ts) q hq)
  have HCZ := Lib.hid (cakeA_size n ts)
  generalize cakeA n ts = ca at *
  have hmf : ∀ (fn : Fn) (first cap : Array Value) (w : World), (Instr.makeFunc fn first cap).run Tryd.prog w = .ok (.func fn first cap) w := fun _ _ _ _ => rfl
  go_enter Tryd.func56, Tryd.ntmps56
  go_wp2_with (first | ((with_reducible refine alloc_blk zeroO run_alloc_off rfl rfl ?_); simp only [World.size_alloc, Act.put, List.setIfInBounds_toArray, List.set_cons_zero, List.set_cons_succ]))
  obtain ⟨w4, hw4⟩ : ∃ w4, w4 = (((w.alloc (.cells ca 55)).alloc (.cells #[.int .i64 ea, .int .i64 eb, .int .i64 ec] 75)).alloc (.cells zeroO 70)).alloc (.cells zeroO 70) := ⟨_, rfl⟩
  rw [← hw4]
  have hz4 : w4.heap.size = w.heap.size + 4 := by rw [hw4]; simp
  have hb4 : Below w.heap.size w w4 := by rw [hw4]; exact balloc (balloc (balloc (balloc (Below.refl _ _) _) _) _) _
  have hg0 : w4.heap[w.heap.size]? = some (.cells ca 55 (0, 0)) := by
    rw [hw4, Below.heap_alloc _ _ _ (by simp; omega), Below.heap_alloc _ _ _ (by simp; omega), Below.heap_alloc _ _ _ (by simp)]
    exact heap_alloc_new w _
  have hg2 : w4.heap[w.heap.size + 2]? = some (.cells zeroO 70 (0, 0)) := by
    rw [hw4, Below.heap_alloc _ _ _ (by simp)]
    have e := heap_alloc_new ((w.alloc (.cells ca 55)).alloc (.cells #[.int .i64 ea, .int .i64 eb, .int .i64 ec] 75)) (.cells zeroO 70)
    rwa [World.size_alloc, World.size_alloc] at e
  have hg3 : w4.heap[w.heap.size + 3]? = some (.cells zeroO 70 (0, 0)) := by
    rw [hw4]
    have e := heap_alloc_new (((w.alloc (.cells ca 55)).alloc (.cells #[.int .i64 ea, .int .i64 eb, .int .i64 ec] 75)).alloc (.cells zeroO 70)) (.cells zeroO 70)
    rwa [World.size_alloc, World.size_alloc, World.size_alloc] at e
  have HG0 := Lib.hid hg0
  clear hw4 hg0
  go_loopw [6, 12] (fun v6 v12 wr => ∃ (k : Nat) (f : Nat → Int), k ≤ 3 ∧ v12 = .int .i64 k ∧ v6 = .int .i64 (pre3 n i k : Nat) ∧ wr.heap[w.heap.size + 3]? = some (.cells (arrF 9 f) 70 (0, 0)) ∧ (∀ q, q < 9 → f q = if q % 3 < k then wof ts n i q else 0) ∧
      wr.heap[w.heap.size]? = some (.cells ca 55 (0, 0)) ∧ wr.heap[w.heap.size + 2]? = some (.cells zeroO 70 (0, 0)) ∧ Below w.heap.size w wr ∧ w.heap.size + 4 ≤ wr.heap.size) (fun _ v12 _ => 3 - (intOf v12).toNat)
  case atStart => exact ⟨0, fun _ => 0, by omega, rfl, rfl, hg3, fun q _ => by rw [if_neg (by omega)], HG0.out, hg2, hb4, by omega⟩
  case round =>
    clear hg3 hg2 HG0 hb4 hz4
    obtain ⟨k, f, hk, rfl, rfl, hg, hf, hg0, hg2, hb, hz⟩ := hrel
    obtain ⟨wq, rfl⟩ : ∃ wq : World, wq = wr := ⟨_, rfl⟩
    have HF := Lib.hid hf
    have HG0 := Lib.hid hg0
    have HG2 := Lib.hid hg2
    clear hf hg0 hg2
    by_cases hlt : k < 3
    · have hki : (k : Int) < 3 := by omega
      have hidx := idx3' ea eb ec k hlt
      rw [HSZ.out k hlt] at hidx
      have HPK := Lib.hid (HPS.out k hlt)
      have hpl := HPL.out k hlt
      have HW : Hid (∀ p, p < 3 → ∀ q, q < 9 → q % 3 = k → q / 3 = p → sf (fun q => tv ts (3 * pre3 n i k + q)) p (sz3 n i k) = wof ts n i q) := Lib.hid (fun p hp q hq h1 h2 => by rw [sf_sl ts _ p hp, wof, worth, h1, h2])
      generalize pre3 n i k = b at *
      generalize sz3 n i k = s at *
      go_wp2_with fail
      go_loopw [19] (fun v19 wr => ∃ (j : Nat) (f : Nat → Int), j ≤ 3 ∧ v19 = .int .i64 j ∧ wr.heap[w.heap.size + 3]? = some (.cells (arrF 9 f) 70 (0, 0)) ∧ (∀ q, q < 9 → f q = if q % 3 < k ∨ (q % 3 = k ∧ q / 3 < j) then wof ts n i q else 0) ∧
          wr.heap[w.heap.size]? = some (.cells ca 55 (0, 0)) ∧ wr.heap[w.heap.size + 2]? = some (.cells zeroO 70 (0, 0)) ∧ Below w.heap.size w wr ∧ w.heap.size + 4 ≤ wr.heap.size) (fun v19 _ => 3 - (intOf v19).toNat)
      case atStart => exact ⟨0, f, by omega, rfl, hg, fun q hq => by rw [HF.out q hq]; congr 1; simp, HG0.out, HG2.out, hb, hz⟩
      case round =>
        clear hg HG0 HG2 hb hz HF
        obtain ⟨j, f, hj, rfl, hg, hf, hg0, hg2, hb, hz⟩ := hrel
        have HF := Lib.hid hf
        have HG := Lib.hid hg
        have HG0 := Lib.hid hg0
        have HG2 := Lib.hid hg2
        clear hf hg0 hg2 hg
        by_cases hltj : j < 3
        · have hji : (j : Int) < 3 := by omega
          go_wp2_with fail
          obtain ⟨wi, hwi⟩ : ∃ wi, wi = wr.alloc (.cells #[.int .i64 j] 3) := ⟨_, rfl⟩
          rw [← hwi]
          have hbi : Below wr.heap.size wr wi := by rw [hwi]; exact balloc (Below.refl _ _) _
          have hci : wi.cell? ⟨wr.heap.size, 0, none⟩ = some (.int .i64 j) := by rw [hwi, World.cell?_alloc_at _ _ _ _ rfl]; rfl
          have hzi : wi.heap.size = wr.heap.size + 1 := by rw [hwi]; simp
          have hs8 : b + s ≤ 8 := by omega
          obtain ⟨off, hoff, hsl⟩ := slice_cake w.heap.size b s hs8
          have HOFF := Lib.hid hoff
          clear hwi hoff
          refine wp_region_mix (fun w' => w'.cell? ⟨wr.heap.size, 0, none⟩ = some (.int .i64 j)) [7, 10] [0, 1, 2, 3, 4, 5, 6, 8, 7, 9, 10] (by kernel_rfl) (by kernel_rfl) (fun _ _ d _ _ h => by cases d <;> exact h) (by kernel_rfl) rfl hci ?_
          refine mix_take 0 _ ?_ rfl rfl rfl (some 22) rfl (fun w' hw' => ?hv0) ?_
          case hv0 =>
            have s0 : w'.cell? ⟨wr.heap.size, 0, none⟩ = some (.int .i64 j) := hw'
            go_simp
            with_reducible rfl
          simp only [Act.put, List.setIfInBounds_toArray, List.set_cons_zero, List.set_cons_succ]
          refine mix_take 1 _ ?_ rfl rfl rfl (some 23) rfl (fun w' hw' => ?hv1) ?_
          case hv1 =>
            go_simp
            with_reducible rfl
          simp only [Act.put, List.setIfInBounds_toArray, List.set_cons_zero, List.set_cons_succ]
          refine mix_take 2 _ ?_ rfl rfl rfl (some 24) rfl (fun w' hw' => ?hv2) ?_
          case hv2 =>
            go_simp
            with_reducible rfl
          simp only [Act.put, List.setIfInBounds_toArray, List.set_cons_zero, List.set_cons_succ]
          refine mix_take 3 _ ?_ rfl rfl rfl (some 25) rfl (fun w' hw' => ?hv3) ?_
          case hv3 =>
            go_simp
            with_reducible rfl
          simp only [Act.put, List.setIfInBounds_toArray, List.set_cons_zero, List.set_cons_succ]
          refine mix_take 4 _ ?_ rfl rfl rfl (some 26) rfl (fun w' hw' => ?hv4) ?_
          case hv4 =>
            go_simp
            with_reducible rfl
          simp only [Act.put, List.setIfInBounds_toArray, List.set_cons_zero, List.set_cons_succ]
          refine mix_take 5 _ ?_ rfl rfl rfl (some 27) rfl (fun w' hw' => ?hv5) ?_
          case hv5 =>
            go_simp
            with_reducible rfl
          simp only [Act.put, List.setIfInBounds_toArray, List.set_cons_zero, List.set_cons_succ]
          refine mix_take 6 _ ?_ rfl rfl rfl (some 28) rfl (fun w' hw' => ?hv6) ?_
          case hv6 =>
            go_simp
            with_reducible rfl
          simp only [Act.put, List.setIfInBounds_toArray, List.set_cons_zero, List.set_cons_succ]
          refine mix_take 8 _ ?_ rfl rfl rfl (some 30) rfl (fun w' hw' => ?hv8) ?_
          case hv8 =>
            go_simp
            with_reducible rfl
          simp only [Act.put, List.setIfInBounds_toArray, List.set_cons_zero, List.set_cons_succ]
          refine mix_call 7 _ rfl rfl rfl 88 #[.slice (some ⟨w.heap.size, off, none⟩) s (8 - b), pickC wr.heap.size] (some 29) rfl ?hr7 ?_
          case hr7 =>
            simp only [pickC]
            go_simp
          have hcs : ∀ q, q < 3 * s → wi.drew.cell? ⟨w.heap.size, off + q, none⟩ = some (.int .i64 (tv ts (3 * b + q))) := fun q hq => by
            have h1 := blk_cell ((hbi.block w.heap.size (by omega)).trans HG0.out) (1 + (3 * b + q)) _ (HCA.out (3 * b + q) (by omega))
            rw [HOFF.out (by omega), show 1 + 3 * b + q = 1 + (3 * b + q) by omega]
            exact h1
          refine (sumOf_pick (fun q => tv ts (3 * b + q)) (fun q => HTB.out _) j hltj w.heap.size off s (8 - b) wr.heap.size (by omega) wi.drew (by show wr.heap.size < wi.heap.size; omega) hci (by show w.heap.size < wi.heap.size; omega) hcs).mono ?_
          rintro e w5 ⟨rfl, hb5⟩
          have hs5 : w5.cell? ⟨wr.heap.size, 0, none⟩ = some (.int .i64 j) := (hb5.cell (by show wr.heap.size < wi.heap.size; omega)).trans hci
          have hb5' : Below wi.heap.size wi w5 := (Same.refl wi |>.drew wi.heap.size).trans hb5
          have hg5 := Lib.hid ((hb5'.block (w.heap.size + 3) (by omega)).trans ((hbi.block _ (by omega)).trans HG.out))
          have hg05 := Lib.hid ((hb5'.block w.heap.size (by omega)).trans ((hbi.block _ (by omega)).trans HG0.out))
          have hg25 := Lib.hid ((hb5'.block (w.heap.size + 2) (by omega)).trans ((hbi.block _ (by omega)).trans HG2.out))
          have hB5 : Below w.heap.size w w5 := bnext (bnext hb hbi) hb5'
          have hz5 := hb5'.size
          clear hcs hb5 hb5'
          refine ⟨_, rfl, hs5, ?_⟩
          simp only [Act.put, List.setIfInBounds_toArray, List.set_cons_zero, List.set_cons_succ]
          refine mix_take 9 _ ?_ rfl rfl rfl (some 31) rfl (fun w' hw' => ?hv9) ?_
          case hv9 =>
            go_simp
            with_reducible rfl
          simp only [Act.put, List.setIfInBounds_toArray, List.set_cons_zero, List.set_cons_succ]
          have HE : Hid (∀ q, q < 9 → (if q = j * 3 + k then sf (fun q => tv ts (3 * b + q)) j s else f q) = if q % 3 < k ∨ (q % 3 = k ∧ q / 3 < j + 1) then wof ts n i q else 0) := Lib.hid (fun q hq => by
            by_cases e : q = j * 3 + k
            · rw [if_pos e, if_pos (by omega)]
              exact HW.out j hltj q hq (by omega) (by omega)
            · rw [if_neg e, HF.out q hq]
              congr 1
              simp only [eq_iff_iff]
              omega)
          have HS := Lib.hid (heap_setCell_same w5 (w.heap.size + 3) (j * 3 + k) _ _ (.int .i64 (sf (fun q => tv ts (3 * b + q)) j s)) hg5.out)
          rw [arrF_set 9 f (j * 3 + k) _ (by omega)] at HS
          generalize sf (fun q => tv ts (3 * b + q)) j s = x at *
          refine mix_store_cell 10 _ rfl rfl rfl 3 _ _ rfl none rfl (by kernel_rfl) (w.heap.size + 3) (j * 3 + k) x ?hx ?hy (arrF 9 f) 70 hg5.out (by rw [arrF_size]; omega) ⟨?hS, ?_⟩
          case hx => exact rfl
          case hy => exact rfl
          case hS => exact (World.cell?_of_block (w := w5) (a := ⟨wr.heap.size, 0, none⟩) (Below.heap_setCell w5 ⟨w.heap.size + 3, j * 3 + k, none⟩ (.int .i64 x) wr.heap.size (by show wr.heap.size ≠ w.heap.size + 3; omega))).trans hs5
          have hg06 := (Below.heap_setCell w5 ⟨w.heap.size + 3, j * 3 + k, none⟩ (.int .i64 x) w.heap.size (by show w.heap.size ≠ w.heap.size + 3; omega)).trans hg05.out
          have hg26 := (Below.heap_setCell w5 ⟨w.heap.size + 3, j * 3 + k, none⟩ (.int .i64 x) (w.heap.size + 2) (by show w.heap.size + 2 ≠ w.heap.size + 3; omega)).trans hg25.out
          have hB6 := hB5.setCell (p := ⟨w.heap.size + 3, j * 3 + k, none⟩) (by show w.heap.size ≤ w.heap.size + 3; omega) (.int .i64 x)
          have hz6 : w.heap.size + 4 ≤ (w5.setCell ⟨w.heap.size + 3, j * 3 + k, none⟩ (.int .i64 x)).heap.size := by rw [World.size_setCell]; omega
          refine mix_done ?_
          go_wp2_with fail
          go_roundw
          case rel => exact ⟨j + 1, _, by omega, by go_num, HS.out, HE.out, hg06, hg26, hB6, hz6⟩
          case measure => simp [intOf]; omega
        · have hj3 : j = 3 := by omega
          have HE : Hid (∀ q, q < 9 → f q = if q % 3 < k + 1 then wof ts n i q else 0) := Lib.hid (fun q hq => by
            rw [HF.out q hq]
            congr 1
            simp only [eq_iff_iff]
            omega)
          clear HF hj3
          go_wp2_with fail
          go_roundw
          case rel => exact ⟨k + 1, f, by omega, by go_num, by rw [HPK.out]; go_num, HG.out, HE.out, HG0.out, HG2.out, hb, hz⟩
          case measure => simp [intOf]; omega
    · have hk3 : k = 3 := by omega
      have HE : Hid (arrF 9 f = offA ts n i) := Lib.hid (arrF_congr 9 (fun q hq => by rw [HF.out q hq, if_pos (by omega)]))
      rw [HE.out] at hg
      clear hk3 HF HE
      go_wp2_with (first | ((with_reducible refine load_blk blkOff ?_ _ rfl (w.heap.size + 3) ?_ (offA ts n i) hg (offA_size _ _ _) ?_); exact rfl; exact rfl; simp only [Act.put, List.setIfInBounds_toArray, List.set_cons_zero, List.set_cons_succ]) | ((with_reducible refine store_blk blkOff rfl _ _ rfl (w.heap.size + 2) (offA ts n i) zeroO ?_ ?_ HG2.out zeroO_size (offA_size _ _ _) (offA_one _ _ _) (w.heap.size + 2) (Nat.le_refl _) ?_); exact rfl; exact rfl; intro w7 hg7 hb7 _ _; have hB7 := hb.trans (hb7.mono (by omega))))
      exact bodyPost_ret (results_blk1 blkOff rfl _ _ (w.heap.size + 2) _ rfl hg7 (offA_size _ _ _)) rfl ⟨rfl, hB7⟩
end Go.Proofs.YtncpnkcdjfohgaaDoor
