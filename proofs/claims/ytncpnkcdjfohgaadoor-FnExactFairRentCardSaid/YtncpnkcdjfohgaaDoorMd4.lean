import Derived.RegionTactic
import Derived.Test.YtncpnkcdjfohgaaDoorMd3
import Derived.Test.YtncpnkcdjfohgaaDoorMb0
import Derived.Test.YtncpnkcdjfohgaaDoorMd5
namespace Go.Proofs.YtncpnkcdjfohgaaDoor
open Go.RowKit
set_option maxRecDepth 4000
theorem idxSh (a b c : Int) (y : Nat) (hy : y < 3) (w : World) : (Instr.index 58 (.agg #[.int .i64 a, .int .i64 b, .int .i64 c]) (.int .i64 y)).run Tryd.prog w = .ok (.int .i64 ([a, b, c].getD y 0)) w := by
  rcases (show y = 0 ∨ y = 1 ∨ y = 2 by omega) with rfl | rfl | rfl
  · exact (show (Instr.index 58 (.agg #[.int .i64 a, .int .i64 b, .int .i64 c]) (.int .i64 0)).run Tryd.prog w = .ok (.int .i64 a) w by kernel_rfl)
  · exact (show (Instr.index 58 (.agg #[.int .i64 a, .int .i64 b, .int .i64 c]) (.int .i64 1)).run Tryd.prog w = .ok (.int .i64 b) w by kernel_rfl)
  · exact (show (Instr.index 58 (.agg #[.int .i64 a, .int .i64 b, .int .i64 c]) (.int .i64 2)).run Tryd.prog w = .ok (.int .i64 c) w by kernel_rfl)
theorem arrF_win (m off k : Nat) (f f' : Nat → Int) (l : List Value) (hl : l.length = k) (hfit : off + k ≤ m) (hin : ∀ j, j < k → l[j]? = some (.int .i64 (f' (off + j)))) (hout : ∀ q, q < m → ¬ (off ≤ q ∧ q < off + k) → f' q = f q) :
    arrF m f' = ((arrF m f).toList.take off ++ l ++ (arrF m f).toList.drop (off + k)).toArray := by
  have hsz : (arrF m f).toList.length = m := by rw [Array.length_toList]; exact arrF_size m f
  apply Array.ext_getElem?
  intro i
  simp only [List.getElem?_toArray]
  rw [List.append_assoc, List.getElem?_append, List.length_take, hsz, Nat.min_eq_left (by omega)]
  by_cases h1 : i < off
  · rw [if_pos h1, List.getElem?_take, if_pos h1, Array.getElem?_toList, arrF_at _ _ _ (by omega), arrF_at _ _ _ (by omega), hout i (by omega) (by omega)]
  · rw [if_neg h1, List.getElem?_append, hl]
    by_cases h2 : i - off < k
    · rw [if_pos h2, hin _ h2, show off + (i - off) = i by omega, arrF_at _ _ _ (by omega)]
    · rw [if_neg h2, List.getElem?_drop, show off + k + (i - off - k) = i by omega, Array.getElem?_toList]
      by_cases h3 : i < m
      · rw [arrF_at _ _ _ h3, arrF_at _ _ _ h3, hout i h3 (by omega)]
      · rw [Array.getElem?_eq_none (by rw [arrF_size]; omega), Array.getElem?_eq_none (by rw [arrF_size]; omega)]
theorem szHolder : (Tryd.prog.info? 118).map (·.size) = some 4 := by kernel_rfl
theorem blkHolder : Blk 118 4 := ⟨.inl ⟨_, Tryd.underlying118⟩, by kernel_rfl⟩
/-- The holders' cells. -/
def hf (g : Nat → Int) (k q : Nat) : Int := if q % 4 < 3 then g (3 * (q / 4) + q % 4) else shn (3 * k + q / 4)
theorem run_make_holders (w : World) : (Instr.makeSlice 115 (.int .i64 3) (.int .i64 3)).run Tryd.prog w = .ok (.slice (some ⟨w.heap.size, 0, none⟩) 3 3) (w.alloc (.cells (arrF 12 fun _ => 0) 118)) := by kernel_rfl
set_option maxHeartbeats 3200000 in
theorem holders_any (g : Nat → Int) (k : Nat) (w : World) :
    Calls Tryd.prog 90 #[.agg (arrF 9 g), .agg (shA k)] w fun e w' => ∃ b, e = .returned (.slice (some ⟨b, 0, none⟩) 3 3) ∧ w.heap.size ≤ b ∧ w'.heap[b]? = some (.cells (arrF 12 (hf g k)) 118 (0, 0)) ∧ Below w.heap.size w w' := by
  obtain ⟨hg0, hg1⟩ := two_heap w (.cells (arrF 9 g) 70) (.cells (shA k) 58)
  have hb0 := balloc (balloc (Below.refl w.heap.size w) (.cells (arrF 9 g) 70)) (.cells (shA k) 58)
  have hz0 : ((w.alloc (.cells (arrF 9 g) 70)).alloc (.cells (shA k) 58)).heap.size = w.heap.size + 2 := by simp
  have HI := Lib.hid (fun y hy w => idxSh (shn (3 * k)) (shn (3 * k + 1)) (shn (3 * k + 2)) y hy w)
  have HA : Hid (shA k = #[.int .i64 (shn (3 * k)), .int .i64 (shn (3 * k + 1)), .int .i64 (shn (3 * k + 2))]) := Lib.hid rfl
  have hmk := run_make_holders
  obtain ⟨w1, hw1⟩ : ∃ w1, w1 = ((w.alloc (.cells (arrF 9 g) 70)).alloc (.cells (shA k) 58)).alloc (.cells (arrF 12 fun _ => 0) 118) := ⟨_, rfl⟩
  have hz1 : w1.heap.size = w.heap.size + 3 := by rw [hw1]; simp
  have hb1 : Below w.heap.size w w1 := by rw [hw1]; exact balloc hb0 _
  have hg01 : w1.heap[w.heap.size]? = some (.cells (arrF 9 g) 70 (0, 0)) := by rw [hw1, Below.heap_alloc _ _ _ (by rw [hz0]; omega)]; exact hg0
  have hg11 : (((w.alloc (.cells (arrF 9 g) 70)).alloc (.cells (shA k) 58)).alloc (.cells (arrF 12 fun _ => 0) 118)).heap[w.heap.size + 1]? = some (.cells (shA k) 58 (0, 0)) := by rw [Below.heap_alloc _ _ _ (by rw [hz0]; omega)]; exact hg1
  have hg21 : w1.heap[w.heap.size + 2]? = some (.cells (arrF 12 fun _ => 0) 118 (0, 0)) := by
    rw [hw1]
    have e := heap_alloc_new ((w.alloc (.cells (arrF 9 g) 70)).alloc (.cells (shA k) 58)) (.cells (arrF 12 fun _ => 0) 118)
    rwa [hz0] at e
  have HW1 := Lib.hid hw1
  clear hb0 hg0 hg1 hz0 hw1
  go_enter Tryd.func90, Tryd.ntmps90
  go_wp2_with (((with_reducible refine load_blk blkSh ?_ _ rfl (w.heap.size + 1) ?_ (shA k) hg11 (shA_size _) ?_); exact rfl; exact rfl; simp only [Act.put, List.setIfInBounds_toArray, List.set_cons_zero, List.set_cons_succ]))
  rw [← HW1.out]
  clear hg11
  go_loopw [10] (fun v10 wr => ∃ (p : Nat) (f : Nat → Int), p ≤ 3 ∧ v10 = .int .i64 p ∧ wr.heap[w.heap.size + 2]? = some (.cells (arrF 12 f) 118 (0, 0)) ∧ (∀ q, q < 12 → f q = if q / 4 < p then hf g k q else 0) ∧ wr.heap[w.heap.size]? = some (.cells (arrF 9 g) 70 (0, 0)) ∧ Below w.heap.size w wr) (fun v10 _ => 3 - (intOf v10).toNat)
  case atStart => exact ⟨0, fun _ => 0, by omega, rfl, hg21, fun q _ => by rw [if_neg (by omega)], hg01, hb1⟩
  case round =>
    clear hg21 hg01 hb1
    obtain ⟨p, f, hp, rfl, hg, hff, hg0, hb⟩ := hrel
    have HF := Lib.hid hff
    clear hff
    by_cases hlt : p < 3
    · have hpi : (p : Int) < 3 := by omega
      have hidx := HI.out p hlt
      rw [show ([shn (3 * k), shn (3 * k + 1), shn (3 * k + 2)] : List Int).getD p 0 = shn (3 * k + p) from shL_at k p hlt, ← HA.out] at hidx
      have c0 := blk_cell hg0 (p * 3) _ (arrF_at 9 g (p * 3) (by omega))
      have c1 := blk_cell hg0 (p * 3 + 1) _ (arrF_at 9 g (p * 3 + 1) (by omega))
      have c2 := blk_cell hg0 (p * 3 + 2) _ (arrF_at 9 g (p * 3 + 2) (by omega))
      have hnew : arrF 12 (fun q => if q / 4 < p + 1 then hf g k q else 0) = ((arrF 12 f).toList.take (p * 4) ++ (Value.agg #[.int .i64 (g (p * 3)), .int .i64 (g (p * 3 + 1)), .int .i64 (g (p * 3 + 2)), .int .i64 (shn (3 * k + p))]).cells.toList ++ (arrF 12 f).toList.drop (p * 4 + 4)).toArray := by
        refine arrF_win 12 (p * 4) 4 f _ _ rfl (by omega) (fun j hj => ?_) (fun q hq hn => ?_)
        · rw [if_pos (by omega)]
          rcases (by omega : j = 0 ∨ j = 1 ∨ j = 2 ∨ j = 3) with rfl | rfl | rfl | rfl
          · show some (Value.int .i64 (g (p * 3))) = _
            rw [hf, if_pos (by omega), show 3 * ((p * 4 + 0) / 4) + (p * 4 + 0) % 4 = p * 3 by omega]
          · show some (Value.int .i64 (g (p * 3 + 1))) = _
            rw [hf, if_pos (by omega), show 3 * ((p * 4 + 1) / 4) + (p * 4 + 1) % 4 = p * 3 + 1 by omega]
          · show some (Value.int .i64 (g (p * 3 + 2))) = _
            rw [hf, if_pos (by omega), show 3 * ((p * 4 + 2) / 4) + (p * 4 + 2) % 4 = p * 3 + 2 by omega]
          · show some (Value.int .i64 (shn (3 * k + p))) = _
            rw [hf, if_neg (by omega), show 3 * k + (p * 4 + 3) / 4 = 3 * k + p by omega]
        · show (if q / 4 < p + 1 then hf g k q else 0) = f q
          rw [HF.out q hq]
          by_cases h1 : q / 4 < p
          · rw [if_pos h1, if_pos (by omega)]
          · rw [if_neg h1, if_neg (by omega)]
      have hone : ∀ u ∈ (Value.agg #[.int .i64 (g (p * 3)), .int .i64 (g (p * 3 + 1)), .int .i64 (g (p * 3 + 2)), .int .i64 (shn (3 * k + p))]).cells.toList, u.oneCell' = true := by
        intro u hu
        simp [Value.cells] at hu
        rcases hu with rfl | rfl | rfl | rfl <;> rfl
      have hfit : p * 4 + 4 ≤ (arrF 12 f).size := by rw [arrF_size]; omega
      obtain ⟨nw, hnw⟩ : ∃ nw, nw = arrF 12 (fun q => if q / 4 < p + 1 then hf g k q else 0) := ⟨_, rfl⟩
      rw [← hnw] at hnew
      have HNW := Lib.hid hnw
      have HNEW := Lib.hid hnew
      clear hnw hnew
      generalize g (p * 3) = x0 at *
      generalize g (p * 3 + 1) = x1 at *
      generalize g (p * 3 + 2) = x2 at *
      generalize shn (3 * k + p) = x3 at *
      go_wp2_with ((with_reducible refine store_win szHolder rfl _ _ rfl (w.heap.size + 2) (p * 4) (.agg #[.int .i64 x0, .int .i64 x1, .int .i64 x2, .int .i64 x3]) (arrF 12 f) nw ?_ ?_ hg ?_ hfit HNEW.out hone (w.heap.size + 2) (Nat.le_refl _) ?_); exact rfl; exact rfl; exact rfl; intro w5 hg5 hb5 hk5 _)
      rw [HNW.out] at hg5
      have hg05 := (hk5 w.heap.size (by omega)).trans hg0
      have hB5 := hb.trans (hb5.mono (by omega))
      go_roundw
      case rel => exact ⟨p + 1, _, by omega, by go_num, hg5, fun q _ => rfl, hg05, hB5⟩
      case measure => simp [intOf]; omega
    · have hp3 : p = 3 := by omega
      have HE : Hid (arrF 12 f = arrF 12 (hf g k)) := Lib.hid (arrF_congr 12 (fun q hq => by rw [HF.out q hq, if_pos (by omega)]))
      rw [HE.out] at hg
      clear hp3 HE HF
      go_wp2_with fail
      go_ret
      exact ⟨_, rfl, by omega, hg, hb⟩
set_option maxHeartbeats 800000 in
theorem ownWorth_any (x y z : Int) (s : Nat) (hs : s < 3) (w : World) :
    Calls Tryd.prog 104 #[.agg #[.int .i64 x, .int .i64 y, .int .i64 z, .int .i64 s]] w fun e w' => e = .returned (.int .i64 (([x, y, z] : List Int).getD s 0)) ∧ Below w.heap.size w w' := by
  have c1 : (w.alloc (.cells #[.int .i64 x, .int .i64 y, .int .i64 z, .int .i64 s] 118)).cell? ⟨w.heap.size, s, none⟩ = some (.int .i64 (([x, y, z] : List Int).getD s 0)) := by
    rw [World.cell?_alloc_at _ _ _ _ rfl]
    rcases (by omega : s = 0 ∨ s = 1 ∨ s = 2) with rfl | rfl | rfl <;> rfl
  have hsi : (s : Int) < 3 := by omega
  generalize ([x, y, z] : List Int).getD s 0 = v at *
  go_enter Tryd.func104, Tryd.ntmps104
  go_wp2_with fail
  go_ret
  exact ⟨rfl, by go_grown⟩
set_option maxHeartbeats 1600000 in
theorem holderEnvy_any (x y z : Int) (s : Nat) (hs : s < 3) (bx : -1000 ≤ x ∧ x ≤ 1000) (by' : -1000 ≤ y ∧ y ≤ 1000) (bz : -1000 ≤ z ∧ z ≤ 1000) (w : World) :
    Calls Tryd.prog 91 #[.agg #[.int .i64 x, .int .i64 y, .int .i64 z, .int .i64 s]] w fun e w' => e = .returned (.int .i64 (max (max x y) z - ([x, y, z] : List Int).getD s 0)) ∧ Below w.heap.size w w' := by
  have HO := Lib.hid (fun w => ownWorth_any x y z s hs w)
  have hg0 := heap_alloc_new w (.cells #[.int .i64 x, .int .i64 y, .int .i64 z, .int .i64 s] 118)
  have hb0 := balloc (Below.refl w.heap.size w) (.cells #[.int .i64 x, .int .i64 y, .int .i64 z, .int .i64 s] 118)
  have hv : -1000 ≤ ([x, y, z] : List Int).getD s 0 ∧ ([x, y, z] : List Int).getD s 0 ≤ 1000 := by
    rcases (by omega : s = 0 ∨ s = 1 ∨ s = 2) with rfl | rfl | rfl <;> assumption
  have hM : -1000 ≤ max (max x y) z ∧ max (max x y) z ≤ 1000 := by omega
  have HMX : Hid (∀ w' b, Rd w' (some ⟨b, 0, none⟩) b 0 [x, y, z] → Calls Tryd.prog 106 #[.slice (some ⟨b, 0, none⟩) 3 3] w' fun e w'' => e = .returned (.int .i64 (max (max x y) z)) ∧ w' = w'') := Lib.hid (fun w' b h => slicesMax_any [x, y, z] _ b 0 3 w' (by simp) h)
  clear bx by' bz
  generalize ([x, y, z] : List Int).getD s 0 = v at *
  generalize max (max x y) z = M at *
  have e5 : IntKind.i64.wrap (M - v) = M - v := IntWalk.i64_in _ ⟨by omega, by omega⟩
  go_enter Tryd.func91, Tryd.ntmps91
  go_wp2_with fail
  obtain ⟨w1, hw1⟩ : ∃ w1, w1 = w.alloc (.cells #[.int .i64 x, .int .i64 y, .int .i64 z, .int .i64 s] 118) := ⟨_, rfl⟩
  rw [← hw1] at hg0 hb0 ⊢
  clear hw1
  refine wp_region_mix (fun w' => w'.heap[w.heap.size]? = some (.cells #[.int .i64 x, .int .i64 y, .int .i64 z, .int .i64 s] 118 (0, 0))) [2, 4] [0, 1, 3, 2, 4, 5, 6] (by kernel_rfl) (by kernel_rfl) (fun _ _ d _ _ h => by cases d <;> exact h) (by kernel_rfl) rfl hg0 ?_
  refine mix_take 0 _ ?_ rfl rfl rfl (some 3) rfl (fun w' hw' => ?hv0) ?_
  case hv0 =>
    go_simp
    with_reducible rfl
  simp only [Act.put, List.setIfInBounds_toArray, List.set_cons_zero, List.set_cons_succ]
  refine mix_take 1 _ ?_ rfl rfl rfl (some 4) rfl (fun w' hw' => ?hv1) ?_
  case hv1 =>
    go_simp
    with_reducible rfl
  simp only [Act.put, List.setIfInBounds_toArray, List.set_cons_zero, List.set_cons_succ]
  refine mix_take 3 _ (.agg #[.int .i64 x, .int .i64 y, .int .i64 z, .int .i64 s]) rfl rfl rfl (some 6) rfl (fun w' hw' => exec_row _ _ rfl w.heap.size rfl #[.int .i64 x, .int .i64 y, .int .i64 z, .int .i64 s] (load_ok blkHolder w' _ _ hw' rfl)) ?_
  simp only [Act.put, List.setIfInBounds_toArray, List.set_cons_zero, List.set_cons_succ]
  refine mix_call 2 _ rfl rfl rfl 106 #[.slice (some ⟨w.heap.size, 0, none⟩) 3 3] (some 5) rfl ?hr2 ?_
  case hr2 => go_simp
  have hrd : Rd w1.drew (some ⟨w.heap.size, 0, none⟩) w.heap.size 0 [x, y, z] := ⟨by simp [maxLen], fun j hj => ⟨rfl, by
    have hj3 : j < 3 := hj
    rw [Nat.zero_add]
    exact blk_cell (w := w1) hg0 j _ (by rcases (by omega : j = 0 ∨ j = 1 ∨ j = 2) with rfl | rfl | rfl <;> rfl)⟩⟩
  refine (HMX.out w1.drew w.heap.size hrd).mono ?_
  rintro e w' ⟨rfl, rfl⟩
  refine ⟨_, rfl, hg0, ?_⟩
  simp only [Act.put, List.setIfInBounds_toArray, List.set_cons_zero, List.set_cons_succ]
  refine mix_call 4 _ rfl rfl rfl 104 #[.agg #[.int .i64 x, .int .i64 y, .int .i64 z, .int .i64 s]] (some 7) rfl ?hr4 ?_
  case hr4 => go_simp
  refine (HO.out _).mono ?_
  rintro e w4 ⟨rfl, hb4'⟩
  have hb4 : Below w1.heap.size w1 w4 := ((Same.refl w1).drew w1.heap.size).trans hb4'
  refine ⟨_, rfl, (hb4.block _ (Array.getElem?_eq_some_iff.1 hg0).1).trans hg0, ?_⟩
  simp only [Act.put, List.setIfInBounds_toArray, List.set_cons_zero, List.set_cons_succ]
  refine mix_take 5 _ ?_ rfl rfl rfl (some 8) rfl (fun w' hw' => ?hv5) ?_
  case hv5 =>
    go_simp
    with_reducible rfl
  simp only [Act.put, List.setIfInBounds_toArray, List.set_cons_zero, List.set_cons_succ]
  refine mix_take 6 _ ?_ rfl rfl rfl (some 2) rfl (fun w' hw' => ?hv6) ?_
  case hv6 =>
    go_simp
    with_reducible rfl
  simp only [Act.put, List.setIfInBounds_toArray, List.set_cons_zero, List.set_cons_succ]
  refine mix_done ?_
  go_wp2_with fail
  go_ret
  exact ⟨rfl, bnext hb0 hb4⟩
/-- The sum of what own things are worth, of the first p people. -/
def smv (W : Nat → Nat → Int) (S : Nat → Nat) : Nat → Int
  | 0 => 0
  | p + 1 => smv W S p + W p (S p)
theorem smv_bd {W : Nat → Nat → Int} {S : Nat → Nat} (hW : ∀ p, p < 3 → ∀ q, q < 3 → -1000 ≤ W p q ∧ W p q ≤ 1000) (hS : ∀ p, p < 3 → S p < 3) : ∀ p : Nat, p ≤ 3 → -1000 * (p : Int) ≤ smv W S p ∧ smv W S p ≤ 1000 * (p : Int)
  | 0, _ => by simp [smv]
  | p + 1, hp => by
    have h := smv_bd hW hS p (by omega)
    have h2 := hW p (by omega) (S p) (hS p (by omega))
    simp only [smv]
    omega
theorem hf_val (g : Nat → Int) (k p : Nat) (_hp : p < 3) : hf g k (p * 4) = g (3 * p) := by
  rw [hf, if_pos (by omega), show 3 * (p * 4 / 4) + p * 4 % 4 = 3 * p by omega]
theorem hf_vals (g : Nat → Int) (k p : Nat) (_hp : p < 3) : hf g k (p * 4 + 1) = g (3 * p + 1) ∧ hf g k (p * 4 + 2) = g (3 * p + 2) ∧ hf g k (p * 4 + 3) = shn (3 * k + p) := by
  refine ⟨?_, ?_, ?_⟩
  · rw [hf, if_pos (by omega), show 3 * ((p * 4 + 1) / 4) + (p * 4 + 1) % 4 = 3 * p + 1 by omega]
  · rw [hf, if_pos (by omega), show 3 * ((p * 4 + 2) / 4) + (p * 4 + 2) % 4 = 3 * p + 2 by omega]
  · rw [hf, if_neg (by omega), show 3 * k + (p * 4 + 3) / 4 = 3 * k + p by omega]
set_option maxHeartbeats 1600000 in
theorem sumOf_own (g : Nat → Int) (hg : ∀ q, q < 9 → -1000 ≤ g q ∧ g q ≤ 1000) (k : Nat) (hk : k < 6) (b : Nat) (w : World) (hb : w.heap[b]? = some (.cells (arrF 12 (hf g k)) 118 (0, 0))) :
    Calls Tryd.prog 103 #[.slice (some ⟨b, 0, none⟩) 3 3, .func (.func 104) #[] #[]] w fun e w' => e = .returned (.int .i64 (smv (fun p q => g (3 * p + q)) (shS k) 3)) ∧ Below w.heap.size w w' := by
  have hbl := (Array.getElem?_eq_some_iff.1 hb).1
  have HB := Lib.hid hb
  have HG := Lib.hid hg
  have HSM : Hid (∀ p, smv (fun p q => g (3 * p + q)) (shS k) (p + 1) = smv (fun p q => g (3 * p + q)) (shS k) p + g (3 * p + shS k p)) := Lib.hid (fun _ => rfl)
  have HSB : Hid (∀ p : Nat, p ≤ 3 → -3000 ≤ smv (fun p q => g (3 * p + q)) (shS k) p ∧ smv (fun p q => g (3 * p + q)) (shS k) p ≤ 3000) := Lib.hid (fun p hp => by have := smv_bd (W := fun p q => g (3 * p + q)) (S := shS k) (fun p hp q hq => hg _ (by omega)) (fun p hp => shS_lt k p hk hp) p hp; omega)
  clear hb hg
  go_enter Tryd.func103, Tryd.ntmps103
  go_wp2_with fail
  go_loopw [5, 10] (fun v5 v10 wr => ∃ p : Nat, p ≤ 3 ∧ v10 = .int .i64 p ∧ v5 = .int .i64 (smv (fun p q => g (3 * p + q)) (shS k) p) ∧ Below w.heap.size w wr) (fun _ v10 _ => 3 - (intOf v10).toNat)
  case atStart => exact ⟨0, by omega, rfl, rfl, Below.refl _ _⟩
  case round =>
    obtain ⟨p, hp, rfl, rfl, hB⟩ := hrel
    by_cases hlt : p < 3
    · have hpi : (p : Int) < 3 := by omega
      have hgr := (hB.block b hbl).trans HB.out
      have c0 := blk_cell hgr (p * 4) _ (arrF_at 12 (hf g k) (p * 4) (by omega))
      have c1 := blk_cell hgr (p * 4 + 1) _ (arrF_at 12 (hf g k) (p * 4 + 1) (by omega))
      have c2 := blk_cell hgr (p * 4 + 2) _ (arrF_at 12 (hf g k) (p * 4 + 2) (by omega))
      have c3 := blk_cell hgr (p * 4 + 3) _ (arrF_at 12 (hf g k) (p * 4 + 3) (by omega))
      rw [hf_val g k p hlt] at c0
      rw [(hf_vals g k p hlt).1] at c1
      rw [(hf_vals g k p hlt).2.1] at c2
      rw [(hf_vals g k p hlt).2.2, shS_eq k p hk hlt] at c3
      have hsl := shS_lt k p hk hlt
      have HX := Lib.hid (HSM.out p)
      have hsb := HSB.out p hp
      have HOW := Lib.hid (fun w => ownWorth_any (g (3 * p)) (g (3 * p + 1)) (g (3 * p + 2)) (shS k p) hsl w)
      have HV : Hid (([g (3 * p), g (3 * p + 1), g (3 * p + 2)] : List Int).getD (shS k p) 0 = g (3 * p + shS k p)) := Lib.hid (by
        rcases (by omega : shS k p = 0 ∨ shS k p = 1 ∨ shS k p = 2) with h | h | h <;> rw [h] <;> rfl)
      have hvb := HG.out (3 * p + shS k p) (by omega)
      rw [HV.out] at HOW
      generalize g (3 * p + shS k p) = v at *
      generalize g (3 * p) = x at *
      generalize g (3 * p + 1) = y at *
      generalize g (3 * p + 2) = z at *
      generalize shS k p = s at *
      generalize smv (fun p q => g (3 * p + q)) (shS k) p = t at *
      clear hgr
      go_wp2_with fail
      refine (HOW.out _).mono ?_
      rintro e w2 ⟨rfl, hb2⟩
      have hB2 := bnext (balloc hB (.cells #[.int .i64 x, .int .i64 y, .int .i64 z, .int .i64 s] 118)) hb2
      clear hb2 hB
      go_wp2_with fail
      go_roundw
      case rel => exact ⟨p + 1, by omega, by go_num, by rw [HX.out], hB2⟩
      case measure => simp [intOf]; omega
    · have hp3 : p = 3 := by omega
      subst hp3
      go_wp2_with fail
      go_ret
      exact ⟨rfl, hB⟩
set_option maxHeartbeats 1600000 in
theorem offSum_any (g : Nat → Int) (hg : ∀ q, q < 9 → -1000 ≤ g q ∧ g q ≤ 1000) (k : Nat) (hk : k < 6) (w : World) :
    Calls Tryd.prog 68 #[.agg (arrF 9 g), .agg (shA k)] w fun e w' => e = .returned (.int .i64 (smv (fun p q => g (3 * p + q)) (shS k) 3)) ∧ Below w.heap.size w w' := by
  obtain ⟨hg0, hg1⟩ := two_heap w (.cells (arrF 9 g) 70) (.cells (shA k) 58)
  have hb0 := balloc (balloc (Below.refl w.heap.size w) (.cells (arrF 9 g) 70)) (.cells (shA k) 58)
  have HH := Lib.hid (fun w => holders_any g k w)
  have HS := Lib.hid (fun b w h => sumOf_own g hg k hk b w h)
  clear hg
  generalize smv (fun p q => g (3 * p + q)) (shS k) 3 = v at *
  go_enter Tryd.func68, Tryd.ntmps68
  go_wp2_with (first | ((with_reducible refine load_blk blkOff ?_ _ rfl (w.heap.size) ?_ (arrF 9 g) hg0 (arrF_size _ _) ?_); exact rfl; exact rfl; simp only [Act.put, List.setIfInBounds_toArray, List.set_cons_zero, List.set_cons_succ]) | ((with_reducible refine load_blk blkSh ?_ _ rfl (w.heap.size + 1) ?_ (shA k) hg1 (shA_size _) ?_); exact rfl; exact rfl; simp only [Act.put, List.setIfInBounds_toArray, List.set_cons_zero, List.set_cons_succ]))
  refine (HH.out _).mono ?_
  rintro e w2 ⟨b, rfl, hbb, hgb, hb2⟩
  have hB2 := bnext hb0 hb2
  go_wp2_with fail
  refine (HS.out b w2 hgb).mono ?_
  rintro e w3 ⟨rfl, hb3⟩
  go_wp2_with fail
  go_ret
  exact ⟨rfl, bnext hB2 hb3⟩
set_option maxHeartbeats 3200000 in
theorem offEnvy_any (g : Nat → Int) (hg : ∀ q, q < 9 → -1000 ≤ g q ∧ g q ≤ 1000) (k : Nat) (hk : k < 6) (G : Int) (hG : Mx (SN (fun p q => g (3 * p + q)) (shS k) 3 0) G) (w : World) :
    Calls Tryd.prog 57 #[.agg (arrF 9 g), .agg (shA k)] w fun e w' => e = .returned (.int .i64 G) ∧ Below w.heap.size w w' := by
  obtain ⟨hg0, hg1⟩ := two_heap w (.cells (arrF 9 g) 70) (.cells (shA k) 58)
  have hb0 := balloc (balloc (Below.refl w.heap.size w) (.cells (arrF 9 g) 70)) (.cells (shA k) 58)
  have HH := Lib.hid (fun w => holders_any g k w)
  have HG := Lib.hid hg
  have HGG := Lib.hid hG
  have HZ := Lib.hid (SN_zero (fun p q => g (3 * p + q)) (shS k))
  have HT := Lib.hid (fun p hp x => SN_three (fun p q => g (3 * p + q)) (shS k) p hp x)
  clear hg hG
  go_enter Tryd.func57, Tryd.ntmps57
  go_wp2_with (first | ((with_reducible refine load_blk blkOff ?_ _ rfl (w.heap.size) ?_ (arrF 9 g) hg0 (arrF_size _ _) ?_); exact rfl; exact rfl; simp only [Act.put, List.setIfInBounds_toArray, List.set_cons_zero, List.set_cons_succ]) | ((with_reducible refine load_blk blkSh ?_ _ rfl (w.heap.size + 1) ?_ (shA k) hg1 (shA_size _) ?_); exact rfl; exact rfl; simp only [Act.put, List.setIfInBounds_toArray, List.set_cons_zero, List.set_cons_succ]))
  refine (HH.out _).mono ?_
  rintro e w2 ⟨b, rfl, hbb, hgb, hb2⟩
  have hB2 := bnext hb0 hb2
  have hbl := (Array.getElem?_eq_some_iff.1 hgb).1
  have HB := Lib.hid hgb
  clear hgb hg0 hg1 hb0 hb2
  go_wp2_with fail
  go_loopw [5, 12] (fun v5 v12 wr => ∃ (p : Nat) (m : Int), p ≤ 3 ∧ v12 = .int .i64 p ∧ v5 = .int .i64 m ∧ Mx (SN (fun p q => g (3 * p + q)) (shS k) p 0) m ∧ Below w2.heap.size w2 wr) (fun _ v12 _ => 3 - (intOf v12).toNat)
  case atStart => exact ⟨0, 0, by omega, rfl, rfl, HZ.out, Below.refl _ _⟩
  case round =>
    obtain ⟨p, m, hp, rfl, rfl, hmx, hB⟩ := hrel
    have HMX := Lib.hid hmx
    clear hmx
    by_cases hlt : p < 3
    · have hpi : (p : Int) < 3 := by omega
      have hgr := (hB.block b hbl).trans HB.out
      have c0 := blk_cell hgr (p * 4) _ (arrF_at 12 (hf g k) (p * 4) (by omega))
      have c1 := blk_cell hgr (p * 4 + 1) _ (arrF_at 12 (hf g k) (p * 4 + 1) (by omega))
      have c2 := blk_cell hgr (p * 4 + 2) _ (arrF_at 12 (hf g k) (p * 4 + 2) (by omega))
      have c3 := blk_cell hgr (p * 4 + 3) _ (arrF_at 12 (hf g k) (p * 4 + 3) (by omega))
      rw [hf_val g k p hlt] at c0
      rw [(hf_vals g k p hlt).1] at c1
      rw [(hf_vals g k p hlt).2.1] at c2
      rw [(hf_vals g k p hlt).2.2, shS_eq k p hk hlt] at c3
      have hsl := shS_lt k p hk hlt
      have HEV := Lib.hid (fun w => holderEnvy_any (g (3 * p)) (g (3 * p + 1)) (g (3 * p + 2)) (shS k p) hsl (HG.out _ (by omega)) (HG.out _ (by omega)) (HG.out _ (by omega)) w)
      have hV : ([g (3 * p), g (3 * p + 1), g (3 * p + 2)] : List Int).getD (shS k p) 0 = g (3 * p + shS k p) := by
        rcases (by omega : shS k p = 0 ∨ shS k p = 1 ∨ shS k p = 2) with h | h | h <;> rw [h] <;> rfl
      rw [hV] at HEV
      have hm3 := HMX.out.three (HT.out p hlt)
      have hmm : max m (max (max (env (fun p q => g (3 * p + q)) (shS k) p 0) (env (fun p q => g (3 * p + q)) (shS k) p 1)) (env (fun p q => g (3 * p + q)) (shS k) p 2)) = if m < max (max (g (3 * p)) (g (3 * p + 1))) (g (3 * p + 2)) - g (3 * p + shS k p) then max (max (g (3 * p)) (g (3 * p + 1))) (g (3 * p + 2)) - g (3 * p + shS k p) else m := by
        simp only [env, Nat.add_zero]
        split <;> omega
      rw [hmm] at hm3
      have HM3 := Lib.hid hm3
      clear hm3 hmm hV
      generalize g (3 * p + shS k p) = v at *
      generalize g (3 * p) = x at *
      generalize g (3 * p + 1) = y at *
      generalize g (3 * p + 2) = z at *
      generalize max (max x y) z - v = u at *
      generalize shS k p = s at *
      clear hgr
      go_wp2_with fail
      refine (HEV.out _).mono ?_
      rintro e w3 ⟨rfl, hb3⟩
      have hB3 := bnext (balloc hB (.cells #[.int .i64 x, .int .i64 y, .int .i64 z, .int .i64 s] 118)) hb3
      clear hb3 hB
      go_wp2_with fail
      go_roundw
      case rel => exact ⟨p + 1, _, by omega, by go_num, rfl, HM3.out, hB3⟩
      case measure => simp [intOf]; omega
    · have hp3 : p = 3 := by omega
      rw [hp3] at HMX
      have e := HMX.out.uniq HGG.out
      subst e
      clear hp3 HMX
      go_wp2_with fail
      go_ret
      exact ⟨rfl, bnext hB2 hB⟩
end Go.Proofs.YtncpnkcdjfohgaaDoor
