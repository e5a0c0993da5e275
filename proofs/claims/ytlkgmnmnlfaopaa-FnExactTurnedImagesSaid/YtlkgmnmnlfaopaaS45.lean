import Derived.LoopN
import Derived.BigRegion
import Derived.BigQuiet
import Derived.RegionTactic
import Derived.Test.YtlkgmnmnlfaopaaS44
import Derived.Test.YtlkgmnmnlfaopaaS16s
namespace Go.Proofs.Ytlkgmnmnlfaopaa
open Go.RowKit
set_option maxRecDepth 4000
/-- A list of numbers by a function, and lists of three of them. -/
def flF (n : Nat) (g : Nat → Int) : List Int := (List.range n).map g
theorem flF_len (n : Nat) (g : Nat → Int) : (flF n g).length = n := by simp [flF]
theorem flF_at (n : Nat) (g : Nat → Int) (j : Nat) (hj : j < n) : (flF n g).getD j 0 = g j := by simp [flF, List.getD, hj]
theorem flF_set (n : Nat) (g : Nat → Int) (j : Nat) (v : Int) (hj : j < n) : (flF n g).set j v = flF n (fun c => if c = j then v else g c) := by
  apply List.ext_getElem?
  intro c
  simp only [flF, List.getElem?_set, List.getElem?_map, List.length_map, List.length_range]
  by_cases h : j = c
  · subst h
    rw [if_pos rfl, if_pos hj, List.getElem?_range hj]
    simp
  · rw [if_neg h]
    by_cases hc : c < n
    · rw [List.getElem?_range hc]
      simp [Ne.symm h]
    · rw [List.getElem?_eq_none (by simp; omega)]; rfl
theorem flF_congr (n : Nat) (f g : Nat → Int) (h : ∀ j, j < n → f j = g j) : flF n f = flF n g := by
  unfold flF
  exact List.map_congr_left (fun j hj => h j (List.mem_range.1 hj))
def imF (m : Nat) (f : Nat → Nat → Int) : List (List Int) := (List.range m).map (fun i => [f i 0, f i 1, f i 2])
theorem imF_len (m : Nat) (f : Nat → Nat → Int) : (imF m f).length = m := by simp [imF]
theorem imF_at (m : Nat) (f : Nat → Nat → Int) (i : Nat) (hi : i < m) : (imF m f).getD i [] = [f i 0, f i 1, f i 2] := by simp [imF, List.getD, hi]
theorem imF_succ (m : Nat) (f : Nat → Nat → Int) : imF (m + 1) f = imF m f ++ [[f m 0, f m 1, f m 2]] := by simp [imF, List.range_succ]
theorem imF_flat (m : Nat) (f : Nat → Nat → Int) : (imF m f).flatten = flF (m * 3) (fun q => f (q / 3) (q % 3)) := by
  induction m with
  | zero => rfl
  | succ m ih =>
    rw [imF_succ, List.flatten_append, ih]
    have e : (m + 1) * 3 = m * 3 + 1 + 1 + 1 := by omega
    rw [e]
    simp only [flF, List.range_succ, List.map_append, List.map_cons, List.map_nil, List.flatten_cons, List.flatten_nil, List.append_nil, List.append_assoc, List.cons_append, List.nil_append]
    rw [show m * 3 / 3 = m by omega, show m * 3 % 3 = 0 by omega, show (m * 3 + 1) / 3 = m by omega, show (m * 3 + 1) % 3 = 1 by omega, show (m * 3 + 1 + 1) / 3 = m by omega, show (m * 3 + 1 + 1) % 3 = 2 by omega]
theorem imF_thr (m : Nat) (f : Nat → Nat → Int) : Thr (imF m f) := fun k hk => by
  rw [imF_len] at hk
  rw [imF_at _ _ _ hk, imF_flat, flF_at _ _ _ (by omega), flF_at _ _ _ (by omega), flF_at _ _ _ (by omega)]
  rw [show k * 3 / 3 = k by omega, show k * 3 % 3 = 0 by omega, show (k * 3 + 1) / 3 = k by omega, show (k * 3 + 1) % 3 = 1 by omega, show (k * 3 + 2) / 3 = k by omega, show (k * 3 + 2) % 3 = 2 by omega]
theorem spotInfo : (Try.prog.info? 79).map (fun i => (i.zero, i.size, i.bytes)) = some (some (.agg zspot), 3, 24) := by kernel_rfl
theorem made_spots (m : Nat) : (madeCells (Value.agg zspot).cells (m * 3)).toList = (flF (m * 3) (fun _ => 0)).map (Value.int .i64) := by
  apply List.ext_getElem?
  intro i
  simp only [madeCells, flF, Array.toList_map, List.map_map, List.getElem?_map, Array.toList_range]
  by_cases hi : i < m * 3
  · rw [List.getElem?_range hi]
    simp only [Option.map_some, Function.comp_apply, Option.some.injEq, Value.cells]
    rcases (by omega : i % 3 = 0 ∨ i % 3 = 1 ∨ i % 3 = 2) with e | e | e <;> simp [zspot, e]
  · rw [List.getElem?_eq_none (by simp; omega)]; rfl
/-- The first i images, and zeros. -/
def imG (f : Nat → Nat → Int) (i q : Nat) : Int := if q < i * 3 then f (q / 3) (q % 3) else 0
theorem imG_step (m : Nat) (f : Nat → Nat → Int) (i : Nat) (hi : i < m) : (((flF (m * 3) (imG f i)).set (i * 3) (f i 0)).set (i * 3 + 1) (f i 1)).set (i * 3 + 2) (f i 2) = flF (m * 3) (imG f (i + 1)) := by
  rw [flF_set _ _ _ _ (by omega), flF_set _ _ _ _ (by omega), flF_set _ _ _ _ (by omega)]
  refine flF_congr _ _ _ (fun j hj => ?_)
  unfold imG
  by_cases h0 : j = i * 3
  · subst h0
    rw [if_neg (by omega), if_neg (by omega), if_pos rfl, if_pos (by omega), show i * 3 / 3 = i by omega, show i * 3 % 3 = 0 by omega]
  · by_cases h1 : j = i * 3 + 1
    · subst h1
      rw [if_neg (by omega), if_pos rfl, if_pos (by omega), show (i * 3 + 1) / 3 = i by omega, show (i * 3 + 1) % 3 = 1 by omega]
    · by_cases h2 : j = i * 3 + 2
      · subst h2
        rw [if_pos rfl, if_pos (by omega), show (i * 3 + 2) / 3 = i by omega, show (i * 3 + 2) % 3 = 2 by omega]
      · rw [if_neg h2, if_neg h1, if_neg h0]
        by_cases h3 : j < i * 3
        · rw [if_pos h3, if_pos (by omega)]
        · rw [if_neg h3, if_neg (by omega)]
theorem hq_later {w w' : World} {g : Nat} {o : Obj} (h : w.heap[g]? = some o) (hb : Below w.heap.size w w') : w'.heap[g]? = some o := (hb.block g (Array.getElem?_eq_some_iff.1 h).1).trans h
set_option maxHeartbeats 3200000 in
theorem imagesByC_any (n : Nat) (h1 : 1 ≤ n) (h2 : n ≤ 5) (f : Nat → Nat → Int) (gp : Nat) (w : World)
    (hcl : ∀ i, i < Pr.cnt n → ∀ w', Below w.heap.size w w' → Calls Try.prog 92 #[.agg (spA3 (pq n i 0) (pq n i 1) (pq n i 2)), .pointer (some ⟨gp, 0, none⟩)] w' fun e w'' => e = .returned (.agg (spA3 (f i 0) (f i 1) (f i 2))) ∧ Below w'.heap.size w' w'') :
    Calls Try.prog 91 #[.agg #[.int .i64 n], .func (.func 92) #[] #[.pointer (some ⟨gp, 0, none⟩)]] w fun e w' => ∃ v, e = .returned v ∧ CellsV w' w.heap.size v (imF (Pr.cnt n) f) ∧ Below w.heap.size w w' := by
  have hcn := (Pr.cnt_le n (by omega)).1
  have hc21 := cnt21 n h2
  obtain ⟨i0, hi, hz0, hz1, hz2⟩ := info_parts spotInfo
  obtain ⟨w1, hw1⟩ : ∃ w1, w1 = (w.alloc (.cells #[.int .i64 n] 75)) := ⟨_, rfl⟩
  have hb1 : Below w.heap.size w w1 := by rw [hw1]; exact balloc (Below.refl w.heap.size w) _
  have g1 : w1.heap[w.heap.size]? = some (.cells #[.int .i64 n] 75 (0, 0)) := by rw [hw1]; exact heap_alloc_new w _
  have c0 := blk_cell g1 0 _ rfl
  have HW := Lib.hid hw1
  have HCL := Lib.hid hcl
  have HM0 : Hid ((flF (Pr.cnt n * 3) (fun _ => 0)) = flF (Pr.cnt n * 3) (imG f 0)) := Lib.hid (flF_congr _ _ _ (fun j hj => by simp [imG]))
  have HST := Lib.hid (imG_step (Pr.cnt n) f)
  have HEND : Hid (flF (Pr.cnt n * 3) (imG f (Pr.cnt n)) = (imF (Pr.cnt n) f).flatten) := Lib.hid (by rw [imF_flat]; exact flF_congr _ _ _ (fun j hj => by simp [imG, hj]))
  have HLN := Lib.hid (fun i => flF_len (Pr.cnt n * 3) (imG f i))
  have HL3 : Hid (∀ b cap w', b < w'.heap.size → (∀ j, j < Pr.cnt n * 3 → w'.cell? ⟨b, j, none⟩ = some (.int .i64 ((imF (Pr.cnt n) f).flatten.getD j 0))) → Calls Try.prog 114 #[.slice (some ⟨b, 0, none⟩) (Pr.cnt n) cap] w' fun e w'' => ∃ v, e = .returned v ∧ CellsV w'' w'.heap.size v (imF (Pr.cnt n) f) ∧ Below w'.heap.size w' w'') := Lib.hid (fun b cap w' hb hc => by
    have := lists3_spot (imF (Pr.cnt n) f) b cap w' hb (by rw [imF_flat, flF_len, imF_len]) (fun j hj => hc j (by rw [imF_flat, flF_len] at hj; exact hj)) (imF_thr _ _) (by rw [imF_len]; omega)
    rwa [imF_len] at this)
  clear hw1 hcl
  go_enter Try.func91, Try.ntmps91
  go_wp2_with fail
  rw [← HW.out]
  refine (size_any n (by omega) _).mono ?_
  rintro e w2 ⟨rfl, hb2⟩
  have hz2' := hb2.size
  have hz1' := hb1.size
  go_wp2_with (at_make; refine wpList_make_full _ rfl _ _ 94 rfl w2.heap.size 79 i0 (.agg zspot) 3 Try.underlying94 hi hz0 hz1 _ _ _ _ (Pr.cnt n) rfl rfl ?hC ?hL ?hb2 ?hb3 ?hb4 ?_)
  case hC => rfl
  case hL => rfl
  case hb2 => rw [hz2]; omega
  case hb3 => unfold maxLen; omega
  case hb4 => exact Nat.le_refl _
  intro w3 ho1 hg1
  have ho3 : w3.ownsRow w2.heap.size 79 3 (.slice (some ⟨w2.heap.size, 0, none⟩) (Pr.cnt n) (Pr.cnt n)) (Pr.cnt n) ((flF (Pr.cnt n * 3) (imG f 0)).map (Value.int .i64)) := by
    rw [← HM0.out, ← made_spots]
    exact ho1
  have hb3 : Below w2.heap.size w2 w3 := (Below.refl _ _).grown hg1 (Nat.le_refl _) (fun k hk => by cases hk)
  have hz3 := hb3.size
  have g3 := hq_later (hq_later g1 hb2) hb3
  have hB3 := bnext (bnext hb1 hb2) hb3
  clear ho1 hg1 c0 hb2 hb3
  go_wp2_with fail
  go_loopw [12] (fun v12 wr => ∃ i : Nat, i ≤ Pr.cnt n ∧ v12 = .int .i64 i ∧ wr.ownsRow w2.heap.size 79 3 (.slice (some ⟨w2.heap.size, 0, none⟩) (Pr.cnt n) (Pr.cnt n)) (Pr.cnt n) ((flF (Pr.cnt n * 3) (imG f i)).map (Value.int .i64)) ∧ Below w2.heap.size w3 wr) (fun v12 _ => Pr.cnt n - (intOf v12).toNat)
  case atStart => exact ⟨0, Nat.zero_le _, rfl, ho3, Below.refl _ _⟩
  case round =>
    clear ho3
    obtain ⟨i, hi, rfl, ho, hb⟩ := hrel
    obtain ⟨wq, rfl⟩ : ∃ wq : World, wq = wr := ⟨_, rfl⟩
    have hzq := hb.size
    have hBq := hB3.trans (hb.mono (by omega))
    by_cases hlt : i < Pr.cnt n
    · have hii : (i : Int) < (Pr.cnt n : Int) := by omega
      have hgl := (Array.getElem?_eq_some_iff.1 g1).1
      have gq : wq.heap[w.heap.size]? = some (.cells #[.int .i64 n] 75 (0, 0)) := (hb.block w.heap.size (by omega)).trans g3
      have d0 := blk_cell gq 0 _ rfl
      have HSP : Hid (∀ w, Calls Try.prog 113 #[.agg #[.int .i64 n], .int .i64 i] w fun e w' => e = .returned (.agg (spA3 (pq n i 0) (pq n i 1) (pq n i 2))) ∧ Below w.heap.size w w') := Lib.hid (fun w => spotAt_any n i h1 (by omega) (by omega) w)
      have HCi := Lib.hid (HCL.out i hlt)
      have HSi := Lib.hid (HST.out i hlt)
      have hln := HLN.out i
      have HO := Lib.hid ho
      have HQ := Lib.hid hb
      have HV : Hid (∀ a b c, spA3 a b c = #[.int .i64 a, .int .i64 b, .int .i64 c]) := Lib.hid (fun _ _ _ => rfl)
      clear ho hb gq hln
      generalize pq n i 0 = p0 at *
      generalize pq n i 1 = p1 at *
      generalize pq n i 2 = p2 at *
      generalize f i 0 = x0 at *
      generalize f i 1 = x1 at *
      generalize f i 2 = x2 at *
      go_wp2_with fail
      refine (HSP.out _).mono ?_
      rintro e w4 ⟨rfl, hb4⟩
      go_wp2_with fail
      refine (HCi.out _ (bnext hBq hb4)).mono ?_
      rintro e w5 ⟨rfl, hb5⟩
      have hb5' := bnext hb4 hb5
      have ho5 := own_now HO.out hb5'
      have hB5 := HQ.out.trans (hb5'.mono (by omega))
      have hln := HLN.out i
      have hl0 : i * 3 < ((flF (Pr.cnt n * 3) (imG f i)).map (Value.int .i64)).length := by rw [List.length_map, hln]; omega
      have hl1 : i * 3 + 1 < ((flF (Pr.cnt n * 3) (imG f i)).map (Value.int .i64)).length := by rw [List.length_map, hln]; omega
      have hl2 : i * 3 + 2 < ((flF (Pr.cnt n * 3) (imG f i)).map (Value.int .i64)).length := by rw [List.length_map, hln]; omega
      have k0 := ho5.cellAt (i * 3) (by omega)
      have k1 := ho5.cellAt (i * 3 + 1) (by omega)
      have k2 := ho5.cellAt (i * 3 + 2) (by omega)
      rw [List.getElem?_eq_getElem hl0] at k0
      rw [List.getElem?_eq_getElem hl1] at k1
      rw [List.getElem?_eq_getElem hl2] at k2
      have f0 := ho5.frozenAt (i * 3)
      have f1 := ho5.frozenAt (i * 3 + 1)
      have f2 := ho5.frozenAt (i * 3 + 2)
      have HP : Hid ((((w5.setCell ⟨w2.heap.size, i * 3, none⟩ (.int .i64 x0)).setCell ⟨w2.heap.size, i * 3 + 1, none⟩ (.int .i64 x1)).setCell ⟨w2.heap.size, i * 3 + 2, none⟩ (.int .i64 x2)).ownsRow w2.heap.size 79 3 (.slice (some ⟨w2.heap.size, 0, none⟩) (Pr.cnt n) (Pr.cnt n)) (Pr.cnt n) ((flF (Pr.cnt n * 3) (imG f (i + 1))).map (Value.int .i64))) := Lib.hid (by
        have s0 := (ho5.stored (i * 3) (.int .i64 x0)).1
        have s1 := (s0.stored (i * 3 + 1) (.int .i64 x1)).1
        have s2 := (s1.stored (i * 3 + 2) (.int .i64 x2)).1
        rw [← List.map_set, ← List.map_set, ← List.map_set, HSi.out] at s2
        exact s2)
      have HPB := Lib.hid (((hB5.setCell (p := ⟨w2.heap.size, i * 3, none⟩) (Nat.le_refl _) (.int .i64 x0)).setCell (p := ⟨w2.heap.size, i * 3 + 1, none⟩) (Nat.le_refl _) (.int .i64 x1)).setCell (p := ⟨w2.heap.size, i * 3 + 2, none⟩) (Nat.le_refl _) (.int .i64 x2))
      rw [HV.out]
      clear ho5 hB5 hln
      generalize ((flF (Pr.cnt n * 3) (imG f i)).map (Value.int .i64))[i * 3] = y0 at k0
      generalize ((flF (Pr.cnt n * 3) (imG f i)).map (Value.int .i64))[i * 3 + 1] = y1 at k1
      generalize ((flF (Pr.cnt n * 3) (imG f i)).map (Value.int .i64))[i * 3 + 2] = y2 at k2
      clear hl0 hl1 hl2
      go_wp2_with fail
      go_roundw
      case rel => exact ⟨i + 1, by omega, by go_num, HP.out, HPB.out⟩
      case measure => simp [intOf]; omega
    · have hi2 : i = Pr.cnt n := by omega
      rw [hi2, HEND.out] at ho
      have hin : ¬ (i : Int) < (Pr.cnt n : Int) := by omega
      have HL := Lib.hid (HL3.out w2.heap.size (Pr.cnt n) wq (own_lt ho _ rfl) (fun j hj => by
        rw [ho.cellAt j (by omega), List.getElem?_map, ← HEND.out, List.getElem?_eq_getElem (by rw [HLN.out]; exact hj), List.getD_eq_getElem?_getD, List.getElem?_eq_getElem (by rw [HLN.out]; exact hj)]
        rfl))
      clear hi2 hlt hi ho
      go_wp2_with fail
      refine HL.out.mono ?_
      rintro e w6 ⟨v, rfl, hc, hb6⟩
      obtain ⟨va, vm, vc, rfl⟩ := cells_shape hc
      have hzz : w.heap.size ≤ wq.heap.size := by omega
      go_wp2_with fail
      go_ret
      exact ⟨_, rfl, cells_base hc hzz, bnext hBq hb6⟩
set_option maxHeartbeats 3200000 in
theorem imagesByT_any (n : Nat) (h1 : 1 ≤ n) (h2 : n ≤ 5) (f : Nat → Nat → Int) (F : Array Value) (w : World)
    (hcl : ∀ i, i < Pr.cnt n → ∀ w', Below w.heap.size w w' → Calls Try.prog 97 #[.agg F, .agg (spA3 (pq n i 0) (pq n i 1) (pq n i 2))] w' fun e w'' => e = .returned (.agg (spA3 (f i 0) (f i 1) (f i 2))) ∧ Below w'.heap.size w' w'') :
    Calls Try.prog 91 #[.agg #[.int .i64 n], .func (.func 97) #[.agg F] #[]] w fun e w' => ∃ v, e = .returned v ∧ CellsV w' w.heap.size v (imF (Pr.cnt n) f) ∧ Below w.heap.size w w' := by
  have hcn := (Pr.cnt_le n (by omega)).1
  have hc21 := cnt21 n h2
  obtain ⟨i0, hi, hz0, hz1, hz2⟩ := info_parts spotInfo
  obtain ⟨w1, hw1⟩ : ∃ w1, w1 = (w.alloc (.cells #[.int .i64 n] 75)) := ⟨_, rfl⟩
  have hb1 : Below w.heap.size w w1 := by rw [hw1]; exact balloc (Below.refl w.heap.size w) _
  have g1 : w1.heap[w.heap.size]? = some (.cells #[.int .i64 n] 75 (0, 0)) := by rw [hw1]; exact heap_alloc_new w _
  have c0 := blk_cell g1 0 _ rfl
  have HW := Lib.hid hw1
  have HCL := Lib.hid hcl
  have HM0 : Hid ((flF (Pr.cnt n * 3) (fun _ => 0)) = flF (Pr.cnt n * 3) (imG f 0)) := Lib.hid (flF_congr _ _ _ (fun j hj => by simp [imG]))
  have HST := Lib.hid (imG_step (Pr.cnt n) f)
  have HEND : Hid (flF (Pr.cnt n * 3) (imG f (Pr.cnt n)) = (imF (Pr.cnt n) f).flatten) := Lib.hid (by rw [imF_flat]; exact flF_congr _ _ _ (fun j hj => by simp [imG, hj]))
  have HLN := Lib.hid (fun i => flF_len (Pr.cnt n * 3) (imG f i))
  have HL3 : Hid (∀ b cap w', b < w'.heap.size → (∀ j, j < Pr.cnt n * 3 → w'.cell? ⟨b, j, none⟩ = some (.int .i64 ((imF (Pr.cnt n) f).flatten.getD j 0))) → Calls Try.prog 114 #[.slice (some ⟨b, 0, none⟩) (Pr.cnt n) cap] w' fun e w'' => ∃ v, e = .returned v ∧ CellsV w'' w'.heap.size v (imF (Pr.cnt n) f) ∧ Below w'.heap.size w' w'') := Lib.hid (fun b cap w' hb hc => by
    have := lists3_spot (imF (Pr.cnt n) f) b cap w' hb (by rw [imF_flat, flF_len, imF_len]) (fun j hj => hc j (by rw [imF_flat, flF_len] at hj; exact hj)) (imF_thr _ _) (by rw [imF_len]; omega)
    rwa [imF_len] at this)
  clear hw1 hcl
  go_enter Try.func91, Try.ntmps91
  go_wp2_with fail
  rw [← HW.out]
  refine (size_any n (by omega) _).mono ?_
  rintro e w2 ⟨rfl, hb2⟩
  have hz2' := hb2.size
  have hz1' := hb1.size
  go_wp2_with (at_make; refine wpList_make_full _ rfl _ _ 94 rfl w2.heap.size 79 i0 (.agg zspot) 3 Try.underlying94 hi hz0 hz1 _ _ _ _ (Pr.cnt n) rfl rfl ?hC ?hL ?hb2 ?hb3 ?hb4 ?_)
  case hC => rfl
  case hL => rfl
  case hb2 => rw [hz2]; omega
  case hb3 => unfold maxLen; omega
  case hb4 => exact Nat.le_refl _
  intro w3 ho1 hg1
  have ho3 : w3.ownsRow w2.heap.size 79 3 (.slice (some ⟨w2.heap.size, 0, none⟩) (Pr.cnt n) (Pr.cnt n)) (Pr.cnt n) ((flF (Pr.cnt n * 3) (imG f 0)).map (Value.int .i64)) := by
    rw [← HM0.out, ← made_spots]
    exact ho1
  have hb3 : Below w2.heap.size w2 w3 := (Below.refl _ _).grown hg1 (Nat.le_refl _) (fun k hk => by cases hk)
  have hz3 := hb3.size
  have g3 := hq_later (hq_later g1 hb2) hb3
  have hB3 := bnext (bnext hb1 hb2) hb3
  clear ho1 hg1 c0 hb2 hb3
  go_wp2_with fail
  go_loopw [12] (fun v12 wr => ∃ i : Nat, i ≤ Pr.cnt n ∧ v12 = .int .i64 i ∧ wr.ownsRow w2.heap.size 79 3 (.slice (some ⟨w2.heap.size, 0, none⟩) (Pr.cnt n) (Pr.cnt n)) (Pr.cnt n) ((flF (Pr.cnt n * 3) (imG f i)).map (Value.int .i64)) ∧ Below w2.heap.size w3 wr) (fun v12 _ => Pr.cnt n - (intOf v12).toNat)
  case atStart => exact ⟨0, Nat.zero_le _, rfl, ho3, Below.refl _ _⟩
  case round =>
    clear ho3
    obtain ⟨i, hi, rfl, ho, hb⟩ := hrel
    obtain ⟨wq, rfl⟩ : ∃ wq : World, wq = wr := ⟨_, rfl⟩
    have hzq := hb.size
    have hBq := hB3.trans (hb.mono (by omega))
    by_cases hlt : i < Pr.cnt n
    · have hii : (i : Int) < (Pr.cnt n : Int) := by omega
      have hgl := (Array.getElem?_eq_some_iff.1 g1).1
      have gq : wq.heap[w.heap.size]? = some (.cells #[.int .i64 n] 75 (0, 0)) := (hb.block w.heap.size (by omega)).trans g3
      have d0 := blk_cell gq 0 _ rfl
      have HSP : Hid (∀ w, Calls Try.prog 113 #[.agg #[.int .i64 n], .int .i64 i] w fun e w' => e = .returned (.agg (spA3 (pq n i 0) (pq n i 1) (pq n i 2))) ∧ Below w.heap.size w w') := Lib.hid (fun w => spotAt_any n i h1 (by omega) (by omega) w)
      have HCi := Lib.hid (HCL.out i hlt)
      have HSi := Lib.hid (HST.out i hlt)
      have hln := HLN.out i
      have HO := Lib.hid ho
      have HQ := Lib.hid hb
      have HV : Hid (∀ a b c, spA3 a b c = #[.int .i64 a, .int .i64 b, .int .i64 c]) := Lib.hid (fun _ _ _ => rfl)
      clear ho hb gq hln
      generalize pq n i 0 = p0 at *
      generalize pq n i 1 = p1 at *
      generalize pq n i 2 = p2 at *
      generalize f i 0 = x0 at *
      generalize f i 1 = x1 at *
      generalize f i 2 = x2 at *
      go_wp2_with fail
      refine (HSP.out _).mono ?_
      rintro e w4 ⟨rfl, hb4⟩
      go_wp2_with fail
      refine (HCi.out _ (bnext hBq hb4)).mono ?_
      rintro e w5 ⟨rfl, hb5⟩
      have hb5' := bnext hb4 hb5
      have ho5 := own_now HO.out hb5'
      have hB5 := HQ.out.trans (hb5'.mono (by omega))
      have hln := HLN.out i
      have hl0 : i * 3 < ((flF (Pr.cnt n * 3) (imG f i)).map (Value.int .i64)).length := by rw [List.length_map, hln]; omega
      have hl1 : i * 3 + 1 < ((flF (Pr.cnt n * 3) (imG f i)).map (Value.int .i64)).length := by rw [List.length_map, hln]; omega
      have hl2 : i * 3 + 2 < ((flF (Pr.cnt n * 3) (imG f i)).map (Value.int .i64)).length := by rw [List.length_map, hln]; omega
      have k0 := ho5.cellAt (i * 3) (by omega)
      have k1 := ho5.cellAt (i * 3 + 1) (by omega)
      have k2 := ho5.cellAt (i * 3 + 2) (by omega)
      rw [List.getElem?_eq_getElem hl0] at k0
      rw [List.getElem?_eq_getElem hl1] at k1
      rw [List.getElem?_eq_getElem hl2] at k2
      have f0 := ho5.frozenAt (i * 3)
      have f1 := ho5.frozenAt (i * 3 + 1)
      have f2 := ho5.frozenAt (i * 3 + 2)
      have HP : Hid ((((w5.setCell ⟨w2.heap.size, i * 3, none⟩ (.int .i64 x0)).setCell ⟨w2.heap.size, i * 3 + 1, none⟩ (.int .i64 x1)).setCell ⟨w2.heap.size, i * 3 + 2, none⟩ (.int .i64 x2)).ownsRow w2.heap.size 79 3 (.slice (some ⟨w2.heap.size, 0, none⟩) (Pr.cnt n) (Pr.cnt n)) (Pr.cnt n) ((flF (Pr.cnt n * 3) (imG f (i + 1))).map (Value.int .i64))) := Lib.hid (by
        have s0 := (ho5.stored (i * 3) (.int .i64 x0)).1
        have s1 := (s0.stored (i * 3 + 1) (.int .i64 x1)).1
        have s2 := (s1.stored (i * 3 + 2) (.int .i64 x2)).1
        rw [← List.map_set, ← List.map_set, ← List.map_set, HSi.out] at s2
        exact s2)
      have HPB := Lib.hid (((hB5.setCell (p := ⟨w2.heap.size, i * 3, none⟩) (Nat.le_refl _) (.int .i64 x0)).setCell (p := ⟨w2.heap.size, i * 3 + 1, none⟩) (Nat.le_refl _) (.int .i64 x1)).setCell (p := ⟨w2.heap.size, i * 3 + 2, none⟩) (Nat.le_refl _) (.int .i64 x2))
      rw [HV.out]
      clear ho5 hB5 hln
      generalize ((flF (Pr.cnt n * 3) (imG f i)).map (Value.int .i64))[i * 3] = y0 at k0
      generalize ((flF (Pr.cnt n * 3) (imG f i)).map (Value.int .i64))[i * 3 + 1] = y1 at k1
      generalize ((flF (Pr.cnt n * 3) (imG f i)).map (Value.int .i64))[i * 3 + 2] = y2 at k2
      clear hl0 hl1 hl2
      go_wp2_with fail
      go_roundw
      case rel => exact ⟨i + 1, by omega, by go_num, HP.out, HPB.out⟩
      case measure => simp [intOf]; omega
    · have hi2 : i = Pr.cnt n := by omega
      rw [hi2, HEND.out] at ho
      have hin : ¬ (i : Int) < (Pr.cnt n : Int) := by omega
      have HL := Lib.hid (HL3.out w2.heap.size (Pr.cnt n) wq (own_lt ho _ rfl) (fun j hj => by
        rw [ho.cellAt j (by omega), List.getElem?_map, ← HEND.out, List.getElem?_eq_getElem (by rw [HLN.out]; exact hj), List.getD_eq_getElem?_getD, List.getElem?_eq_getElem (by rw [HLN.out]; exact hj)]
        rfl))
      clear hi2 hlt hi ho
      go_wp2_with fail
      refine HL.out.mono ?_
      rintro e w6 ⟨v, rfl, hc, hb6⟩
      obtain ⟨va, vm, vc, rfl⟩ := cells_shape hc
      have hzz : w.heap.size ≤ wq.heap.size := by omega
      go_wp2_with fail
      go_ret
      exact ⟨_, rfl, cells_base hc hzz, bnext hBq hb6⟩
end Go.Proofs.Ytlkgmnmnlfaopaa
