import Derived.Test.YtelchpdlfedleaaS19
import Derived.Test.YtelchpdlfedleaaS15s
namespace Go.Proofs.Ytelchpdlfedleaa
open Go.RowKit
set_option maxRecDepth 4000
theorem blkzspot : Blk 50 3 := ⟨.inr ⟨_, _, Try.underlying50⟩, by kernel_rfl⟩
theorem run_alloc_zspot (w : World) : (Instr.alloc 50 true (.tuple #[])).run Try.prog w = .ok (.pointer (some ⟨w.heap.size, 0, none⟩)) (w.alloc (.cells zspot 50)) := by kernel_rfl
set_option maxHeartbeats 800000 in
theorem area_spot (a b c d e f : Int) (h1 : -225 ≤ a * e ∧ a * e ≤ 225) (h2 : -225 ≤ b * d ∧ b * d ≤ 225) (w : World) :
    Calls Try.prog 134 #[.agg (spA3 a b c), .agg (spA3 d e f)] w fun e' w' => e' = .returned (.int .i64 (a * e - b * d)) ∧ Below w.heap.size w w' := by
  obtain ⟨h3, h4⟩ := h1
  obtain ⟨h5, h6⟩ := h2
  show Calls Try.prog _ #[.agg #[.int .i64 a, .int .i64 b, .int .i64 c], .agg #[.int .i64 d, .int .i64 e, .int .i64 f]] _ _
  go_enter Try.func134, Try.ntmps134
  go_wp2_with fail
  go_ret
  exact ⟨rfl, by go_grown⟩
set_option maxHeartbeats 6400000 in
theorem areasOf_spot (x0 x1 x2 x3 x4 x5 x6 x7 x8 : Int) (b0 : -15 ≤ x0 ∧ x0 ≤ 15) (b1 : -15 ≤ x1 ∧ x1 ≤ 15) (b3 : -15 ≤ x3 ∧ x3 ≤ 15) (b4 : -15 ≤ x4 ∧ x4 ≤ 15) (b6 : -15 ≤ x6 ∧ x6 ≤ 15) (b7 : -15 ≤ x7 ∧ x7 ≤ 15) (w : World) :
    Calls Try.prog 109 #[.agg (n9 x0 x1 x2 x3 x4 x5 x6 x7 x8)] w fun e w' => e = .returned (.agg (spA3 (x3 * x7 - x4 * x6) (x6 * x1 - x7 * x0) (x0 * x4 - x1 * x3))) ∧ Below w.heap.size w w' := by
  have H0 := Lib.hid (fun w => area_spot x3 x4 x5 x6 x7 x8 (mul_bd _ _ b3 b7) (mul_bd _ _ b4 b6) w)
  have H1 := Lib.hid (fun w => area_spot x6 x7 x8 x0 x1 x2 (mul_bd _ _ b6 b1) (mul_bd _ _ b7 b0) w)
  have H2 := Lib.hid (fun w => area_spot x0 x1 x2 x3 x4 x5 (mul_bd _ _ b0 b4) (mul_bd _ _ b1 b3) w)
  have HW0 : Hid (∀ j, j < 3 → (n9 x0 x1 x2 x3 x4 x5 x6 x7 x8)[0 + j]? = (spA3 x0 x1 x2)[j]?) := Lib.hid (fun j hj => by rcases (by omega : j = 0 ∨ j = 1 ∨ j = 2) with rfl | rfl | rfl <;> rfl)
  have HW1 : Hid (∀ j, j < 3 → (n9 x0 x1 x2 x3 x4 x5 x6 x7 x8)[3 + j]? = (spA3 x3 x4 x5)[j]?) := Lib.hid (fun j hj => by rcases (by omega : j = 0 ∨ j = 1 ∨ j = 2) with rfl | rfl | rfl <;> rfl)
  have HW2 : Hid (∀ j, j < 3 → (n9 x0 x1 x2 x3 x4 x5 x6 x7 x8)[6 + j]? = (spA3 x6 x7 x8)[j]?) := Lib.hid (fun j hj => by rcases (by omega : j = 0 ∨ j = 1 ∨ j = 2) with rfl | rfl | rfl <;> rfl)
  clear b0 b1 b3 b4 b6 b7
  generalize x3 * x7 - x4 * x6 = o0 at *
  generalize x6 * x1 - x7 * x0 = o1 at *
  generalize x0 * x4 - x1 * x3 = o2 at *
  have hbd := run_build_ar o0 o1 o2
  obtain ⟨w2, hw2⟩ : ∃ w2, w2 = (w.alloc (.cells (n9 x0 x1 x2 x3 x4 x5 x6 x7 x8) 93)).alloc (.cells zspot 71) := ⟨_, rfl⟩
  obtain ⟨g0, g1⟩ := heap2 w (.cells (n9 x0 x1 x2 x3 x4 x5 x6 x7 x8) 93) (.cells zspot 71)
  rw [← hw2] at g0 g1
  have hb2 : Below w.heap.size w w2 := by rw [hw2]; exact balloc (balloc (Below.refl _ _) _) _
  have hz2 : w2.heap.size = w.heap.size + 2 := by rw [hw2]; simp
  have hK2 : RK w (.cells (n9 x0 x1 x2 x3 x4 x5 x6 x7 x8) 93) (.cells zspot 71) w2 := ⟨g0, g1, hb2⟩
  have HWE := Lib.hid hw2
  clear hw2 g0 g1 hb2
  go_enter Try.func109, Try.ntmps109
  go_wp2_with ((with_reducible refine alloc_blk zspot run_alloc_ar rfl rfl ?_); simp only [World.size_alloc, Act.put, List.setIfInBounds_toArray, List.set_cons_zero, List.set_cons_succ])
  rw [← HWE.out]
  refine (fun (hX : ∀ (p6 p7 p8 : Nat) (W : World), W.heap[p6]? = some (.cells (spA3 x0 x1 x2) 50 (0, 0)) → W.heap[p7]? = some (.cells (spA3 x3 x4 x5) 50 (0, 0)) → W.heap[p8]? = some (.cells (spA3 x6 x7 x8) 50 (0, 0)) → RK w (.cells (n9 x0 x1 x2 x3 x4 x5 x6 x7 x8) 93) (.cells zspot 71) W → (?X : Nat → Nat → Nat → World → Prop) p6 p7 p8 W) => ?reg) ?main
  case reg =>
    refine wp_region_mu (RK w (.cells (n9 x0 x1 x2 x3 x4 x5 x6 x7 x8) 93) (.cells zspot 71)) (.take 0 (.take 1 (.take 2 (.take 3 (.take 4 (.take 5 (.fork3 6 (.fork 7 (.sole 8 (.sole 9 (.sole 10 (.sole 11 .done)))) 8 (.sole 7 (.sole 9 (.sole 10 (.sole 11 .done))))) 7 (.fork 6 (.sole 8 (.sole 9 (.sole 10 (.sole 11 .done)))) 8 (.sole 6 (.sole 9 (.sole 10 (.sole 11 .done))))) 8 (.fork 6 (.sole 7 (.sole 9 (.sole 10 (.sole 11 .done)))) 7 (.sole 6 (.sole 9 (.sole 10 (.sole 11 .done)))))))))))) (by kernel_rfl) (by kernel_rfl) (fun _ _ d _ _ h => by cases d <;> exact h) (by kernel_rfl) rfl (hK2.below (Below.refl _ _).drew) ?_
    refine mu_take 0 _ ?_ rfl rfl (some 6) rfl (fun w' hw' => ?hv0) ?_
    case hv0 => (go_simp; with_reducible rfl)
    simp only [Act.put, List.setIfInBounds_toArray, List.set_cons_zero, List.set_cons_succ]
    refine mu_take 1 _ (.agg (spA3 x0 x1 x2)) rfl rfl (some 7) rfl (fun w' hw' => exec_win blkzspot _ rfl w.heap.size 0 rfl _ (spA3 x0 x1 x2) (hw' : RK w _ _ w').src HW0.out rfl) ?_
    simp only [Act.put, List.setIfInBounds_toArray, List.set_cons_zero, List.set_cons_succ]
    refine mu_take 2 _ ?_ rfl rfl (some 8) rfl (fun w' hw' => ?hv2) ?_
    case hv2 => (go_simp; with_reducible rfl)
    simp only [Act.put, List.setIfInBounds_toArray, List.set_cons_zero, List.set_cons_succ]
    refine mu_take 3 _ (.agg (spA3 x3 x4 x5)) rfl rfl (some 9) rfl (fun w' hw' => exec_win blkzspot _ rfl w.heap.size 3 rfl _ (spA3 x3 x4 x5) (hw' : RK w _ _ w').src HW1.out rfl) ?_
    simp only [Act.put, List.setIfInBounds_toArray, List.set_cons_zero, List.set_cons_succ]
    refine mu_take 4 _ ?_ rfl rfl (some 10) rfl (fun w' hw' => ?hv4) ?_
    case hv4 => (go_simp; with_reducible rfl)
    simp only [Act.put, List.setIfInBounds_toArray, List.set_cons_zero, List.set_cons_succ]
    refine mu_take 5 _ (.agg (spA3 x6 x7 x8)) rfl rfl (some 11) rfl (fun w' hw' => exec_win blkzspot _ rfl w.heap.size 6 rfl _ (spA3 x6 x7 x8) (hw' : RK w _ _ w').src HW2.out rfl) ?_
    simp only [Act.put, List.setIfInBounds_toArray, List.set_cons_zero, List.set_cons_succ]
    have hK4 := hK2.below (Below.refl _ _).drew
    generalize w2.drew = w4 at hK4 ⊢
    refine mu_fork3 ?_ ?_ ?_
    · have hbwx1 : Below w4.heap.size w4 (w4.alloc (.cells zspot 50)) := balloc (Below.refl _ _) _
      have hKwx1 := hK4.below hbwx1
      have hA6 := heap_alloc_new w4 (.cells zspot 50)
      have hl6 := hK4.lt
      refine mu_alloc zspot run_alloc_zspot 6 _ rfl rfl rfl (some 3) rfl ⟨hKwx1, ?_⟩
      generalize w4.alloc (.cells zspot 50) = wx1 at hA6  hKwx1 ⊢
      obtain ⟨p6, hp6⟩ : ∃ p, p = w4.heap.size := ⟨_, rfl⟩
      rw [← hp6] at hA6 hl6  ⊢
      clear hp6 hbwx1
      have hO6 := hA6
      simp only [Act.put, List.setIfInBounds_toArray, List.set_cons_zero, List.set_cons_succ]
      refine mu_fork ?_ ?_
      · have hbwx2 : Below wx1.heap.size wx1 (wx1.alloc (.cells zspot 50)) := balloc (Below.refl _ _) _
        have hKwx2 := hKwx1.below hbwx2
        have hA7 := heap_alloc_new wx1 (.cells zspot 50)
        replace hA6 := heap_later hA6 hbwx2
        have hl67 : p6 < wx1.heap.size := (Array.getElem?_eq_some_iff.1 hO6).1
        have hl7 := hKwx1.lt
        refine mu_alloc zspot run_alloc_zspot 7 _ rfl rfl rfl (some 4) rfl ⟨hKwx2, ?_⟩
        generalize wx1.alloc (.cells zspot 50) = wx2 at hA7 hA6 hKwx2 ⊢
        obtain ⟨p7, hp7⟩ : ∃ p, p = wx1.heap.size := ⟨_, rfl⟩
        rw [← hp7] at hA7 hl7 hl67 ⊢
        clear hp7 hbwx2
        replace hO6 := hA6
        have hO7 := hA7
        simp only [Act.put, List.setIfInBounds_toArray, List.set_cons_zero, List.set_cons_succ]
        have hbwx3 : Below wx2.heap.size wx2 (wx2.alloc (.cells zspot 50)) := balloc (Below.refl _ _) _
        have hKwx3 := hKwx2.below hbwx3
        have hA8 := heap_alloc_new wx2 (.cells zspot 50)
        replace hA6 := heap_later hA6 hbwx3
        replace hA7 := heap_later hA7 hbwx3
        have hl68 : p6 < wx2.heap.size := (Array.getElem?_eq_some_iff.1 hO6).1
        have hl78 : p7 < wx2.heap.size := (Array.getElem?_eq_some_iff.1 hO7).1
        have hl8 := hKwx2.lt
        refine mu_alloc zspot run_alloc_zspot 8 _ rfl rfl rfl (some 5) rfl ⟨hKwx3, ?_⟩
        generalize wx2.alloc (.cells zspot 50) = wx3 at hA8 hA6 hA7 hKwx3 ⊢
        obtain ⟨p8, hp8⟩ : ∃ p, p = wx2.heap.size := ⟨_, rfl⟩
        rw [← hp8] at hA8 hl8 hl68 hl78 ⊢
        clear hp8 hbwx3
        replace hO6 := hA6
        replace hO7 := hA7
        have hO8 := hA8
        simp only [Act.put, List.setIfInBounds_toArray, List.set_cons_zero, List.set_cons_succ]
        refine mu_store_blk blkzspot 9 _ rfl rfl _ _ rfl none rfl p6 (spA3 x0 x1 x2) zspot rfl rfl hA6 rfl rfl (spA3_one _ _ _) p6 (Nat.le_refl _) ?_
        intro wy4 hgwy4 hbwy4 hkwy4 hzwy4
        have hKwy4 := hKwx3.keep p6 hl6 hkwy4 hbwy4
        have hwy47 := (hkwy4 p7 (by omega)).trans hA7
        have hwy48 := (hkwy4 p8 (by omega)).trans hA8
        refine ⟨hKwy4, ?_⟩
        simp only [Act.put]
        refine mu_store_blk blkzspot 10 _ rfl rfl _ _ rfl none rfl p7 (spA3 x3 x4 x5) zspot rfl rfl hwy47 rfl rfl (spA3_one _ _ _) p7 (Nat.le_refl _) ?_
        intro wy5 hgwy5 hbwy5 hkwy5 hzwy5
        have hKwy5 := hKwy4.keep p7 hl7 hkwy5 hbwy5
        have hwy56 := (hkwy5 p6 (by omega)).trans hgwy4
        have hwy58 := (hkwy5 p8 (by omega)).trans hwy48
        refine ⟨hKwy5, ?_⟩
        simp only [Act.put]
        refine mu_store_blk blkzspot 11 _ rfl rfl _ _ rfl none rfl p8 (spA3 x6 x7 x8) zspot rfl rfl hwy58 rfl rfl (spA3_one _ _ _) p8 (Nat.le_refl _) ?_
        intro wy6 hgwy6 hbwy6 hkwy6 hzwy6
        have hKwy6 := hKwy5.keep p8 hl8 hkwy6 hbwy6
        have hwy66 := (hkwy6 p6 (by omega)).trans hwy56
        have hwy67 := (hkwy6 p7 (by omega)).trans hgwy5
        refine ⟨hKwy6, ?_⟩
        simp only [Act.put]
        refine mu_done ?_
        exact hX p6 p7 p8 wy6 hwy66 hwy67 hgwy6 hKwy6
      · have hbwx7 : Below wx1.heap.size wx1 (wx1.alloc (.cells zspot 50)) := balloc (Below.refl _ _) _
        have hKwx7 := hKwx1.below hbwx7
        have hA8 := heap_alloc_new wx1 (.cells zspot 50)
        replace hA6 := heap_later hA6 hbwx7
        have hl68 : p6 < wx1.heap.size := (Array.getElem?_eq_some_iff.1 hO6).1
        have hl8 := hKwx1.lt
        refine mu_alloc zspot run_alloc_zspot 8 _ rfl rfl rfl (some 5) rfl ⟨hKwx7, ?_⟩
        generalize wx1.alloc (.cells zspot 50) = wx7 at hA8 hA6 hKwx7 ⊢
        obtain ⟨p8, hp8⟩ : ∃ p, p = wx1.heap.size := ⟨_, rfl⟩
        rw [← hp8] at hA8 hl8 hl68 ⊢
        clear hp8 hbwx7
        replace hO6 := hA6
        have hO8 := hA8
        simp only [Act.put, List.setIfInBounds_toArray, List.set_cons_zero, List.set_cons_succ]
        have hbwx8 : Below wx7.heap.size wx7 (wx7.alloc (.cells zspot 50)) := balloc (Below.refl _ _) _
        have hKwx8 := hKwx7.below hbwx8
        have hA7 := heap_alloc_new wx7 (.cells zspot 50)
        replace hA6 := heap_later hA6 hbwx8
        replace hA8 := heap_later hA8 hbwx8
        have hl67 : p6 < wx7.heap.size := (Array.getElem?_eq_some_iff.1 hO6).1
        have hl87 : p8 < wx7.heap.size := (Array.getElem?_eq_some_iff.1 hO8).1
        have hl7 := hKwx7.lt
        refine mu_alloc zspot run_alloc_zspot 7 _ rfl rfl rfl (some 4) rfl ⟨hKwx8, ?_⟩
        generalize wx7.alloc (.cells zspot 50) = wx8 at hA7 hA6 hA8 hKwx8 ⊢
        obtain ⟨p7, hp7⟩ : ∃ p, p = wx7.heap.size := ⟨_, rfl⟩
        rw [← hp7] at hA7 hl7 hl67 hl87 ⊢
        clear hp7 hbwx8
        replace hO6 := hA6
        replace hO8 := hA8
        have hO7 := hA7
        simp only [Act.put, List.setIfInBounds_toArray, List.set_cons_zero, List.set_cons_succ]
        refine mu_store_blk blkzspot 9 _ rfl rfl _ _ rfl none rfl p6 (spA3 x0 x1 x2) zspot rfl rfl hA6 rfl rfl (spA3_one _ _ _) p6 (Nat.le_refl _) ?_
        intro wy9 hgwy9 hbwy9 hkwy9 hzwy9
        have hKwy9 := hKwx8.keep p6 hl6 hkwy9 hbwy9
        have hwy97 := (hkwy9 p7 (by omega)).trans hA7
        have hwy98 := (hkwy9 p8 (by omega)).trans hA8
        refine ⟨hKwy9, ?_⟩
        simp only [Act.put]
        refine mu_store_blk blkzspot 10 _ rfl rfl _ _ rfl none rfl p7 (spA3 x3 x4 x5) zspot rfl rfl hwy97 rfl rfl (spA3_one _ _ _) p7 (Nat.le_refl _) ?_
        intro wy10 hgwy10 hbwy10 hkwy10 hzwy10
        have hKwy10 := hKwy9.keep p7 hl7 hkwy10 hbwy10
        have hwy106 := (hkwy10 p6 (by omega)).trans hgwy9
        have hwy108 := (hkwy10 p8 (by omega)).trans hwy98
        refine ⟨hKwy10, ?_⟩
        simp only [Act.put]
        refine mu_store_blk blkzspot 11 _ rfl rfl _ _ rfl none rfl p8 (spA3 x6 x7 x8) zspot rfl rfl hwy108 rfl rfl (spA3_one _ _ _) p8 (Nat.le_refl _) ?_
        intro wy11 hgwy11 hbwy11 hkwy11 hzwy11
        have hKwy11 := hKwy10.keep p8 hl8 hkwy11 hbwy11
        have hwy116 := (hkwy11 p6 (by omega)).trans hwy106
        have hwy117 := (hkwy11 p7 (by omega)).trans hgwy10
        refine ⟨hKwy11, ?_⟩
        simp only [Act.put]
        refine mu_done ?_
        exact hX p6 p7 p8 wy11 hwy116 hwy117 hgwy11 hKwy11
    · have hbwx12 : Below w4.heap.size w4 (w4.alloc (.cells zspot 50)) := balloc (Below.refl _ _) _
      have hKwx12 := hK4.below hbwx12
      have hA7 := heap_alloc_new w4 (.cells zspot 50)
      have hl7 := hK4.lt
      refine mu_alloc zspot run_alloc_zspot 7 _ rfl rfl rfl (some 4) rfl ⟨hKwx12, ?_⟩
      generalize w4.alloc (.cells zspot 50) = wx12 at hA7  hKwx12 ⊢
      obtain ⟨p7, hp7⟩ : ∃ p, p = w4.heap.size := ⟨_, rfl⟩
      rw [← hp7] at hA7 hl7  ⊢
      clear hp7 hbwx12
      have hO7 := hA7
      simp only [Act.put, List.setIfInBounds_toArray, List.set_cons_zero, List.set_cons_succ]
      refine mu_fork ?_ ?_
      · have hbwx13 : Below wx12.heap.size wx12 (wx12.alloc (.cells zspot 50)) := balloc (Below.refl _ _) _
        have hKwx13 := hKwx12.below hbwx13
        have hA6 := heap_alloc_new wx12 (.cells zspot 50)
        replace hA7 := heap_later hA7 hbwx13
        have hl76 : p7 < wx12.heap.size := (Array.getElem?_eq_some_iff.1 hO7).1
        have hl6 := hKwx12.lt
        refine mu_alloc zspot run_alloc_zspot 6 _ rfl rfl rfl (some 3) rfl ⟨hKwx13, ?_⟩
        generalize wx12.alloc (.cells zspot 50) = wx13 at hA6 hA7 hKwx13 ⊢
        obtain ⟨p6, hp6⟩ : ∃ p, p = wx12.heap.size := ⟨_, rfl⟩
        rw [← hp6] at hA6 hl6 hl76 ⊢
        clear hp6 hbwx13
        replace hO7 := hA7
        have hO6 := hA6
        simp only [Act.put, List.setIfInBounds_toArray, List.set_cons_zero, List.set_cons_succ]
        have hbwx14 : Below wx13.heap.size wx13 (wx13.alloc (.cells zspot 50)) := balloc (Below.refl _ _) _
        have hKwx14 := hKwx13.below hbwx14
        have hA8 := heap_alloc_new wx13 (.cells zspot 50)
        replace hA7 := heap_later hA7 hbwx14
        replace hA6 := heap_later hA6 hbwx14
        have hl78 : p7 < wx13.heap.size := (Array.getElem?_eq_some_iff.1 hO7).1
        have hl68 : p6 < wx13.heap.size := (Array.getElem?_eq_some_iff.1 hO6).1
        have hl8 := hKwx13.lt
        refine mu_alloc zspot run_alloc_zspot 8 _ rfl rfl rfl (some 5) rfl ⟨hKwx14, ?_⟩
        generalize wx13.alloc (.cells zspot 50) = wx14 at hA8 hA7 hA6 hKwx14 ⊢
        obtain ⟨p8, hp8⟩ : ∃ p, p = wx13.heap.size := ⟨_, rfl⟩
        rw [← hp8] at hA8 hl8 hl78 hl68 ⊢
        clear hp8 hbwx14
        replace hO7 := hA7
        replace hO6 := hA6
        have hO8 := hA8
        simp only [Act.put, List.setIfInBounds_toArray, List.set_cons_zero, List.set_cons_succ]
        refine mu_store_blk blkzspot 9 _ rfl rfl _ _ rfl none rfl p6 (spA3 x0 x1 x2) zspot rfl rfl hA6 rfl rfl (spA3_one _ _ _) p6 (Nat.le_refl _) ?_
        intro wy15 hgwy15 hbwy15 hkwy15 hzwy15
        have hKwy15 := hKwx14.keep p6 hl6 hkwy15 hbwy15
        have hwy157 := (hkwy15 p7 (by omega)).trans hA7
        have hwy158 := (hkwy15 p8 (by omega)).trans hA8
        refine ⟨hKwy15, ?_⟩
        simp only [Act.put]
        refine mu_store_blk blkzspot 10 _ rfl rfl _ _ rfl none rfl p7 (spA3 x3 x4 x5) zspot rfl rfl hwy157 rfl rfl (spA3_one _ _ _) p7 (Nat.le_refl _) ?_
        intro wy16 hgwy16 hbwy16 hkwy16 hzwy16
        have hKwy16 := hKwy15.keep p7 hl7 hkwy16 hbwy16
        have hwy166 := (hkwy16 p6 (by omega)).trans hgwy15
        have hwy168 := (hkwy16 p8 (by omega)).trans hwy158
        refine ⟨hKwy16, ?_⟩
        simp only [Act.put]
        refine mu_store_blk blkzspot 11 _ rfl rfl _ _ rfl none rfl p8 (spA3 x6 x7 x8) zspot rfl rfl hwy168 rfl rfl (spA3_one _ _ _) p8 (Nat.le_refl _) ?_
        intro wy17 hgwy17 hbwy17 hkwy17 hzwy17
        have hKwy17 := hKwy16.keep p8 hl8 hkwy17 hbwy17
        have hwy176 := (hkwy17 p6 (by omega)).trans hwy166
        have hwy177 := (hkwy17 p7 (by omega)).trans hgwy16
        refine ⟨hKwy17, ?_⟩
        simp only [Act.put]
        refine mu_done ?_
        exact hX p6 p7 p8 wy17 hwy176 hwy177 hgwy17 hKwy17
      · have hbwx18 : Below wx12.heap.size wx12 (wx12.alloc (.cells zspot 50)) := balloc (Below.refl _ _) _
        have hKwx18 := hKwx12.below hbwx18
        have hA8 := heap_alloc_new wx12 (.cells zspot 50)
        replace hA7 := heap_later hA7 hbwx18
        have hl78 : p7 < wx12.heap.size := (Array.getElem?_eq_some_iff.1 hO7).1
        have hl8 := hKwx12.lt
        refine mu_alloc zspot run_alloc_zspot 8 _ rfl rfl rfl (some 5) rfl ⟨hKwx18, ?_⟩
        generalize wx12.alloc (.cells zspot 50) = wx18 at hA8 hA7 hKwx18 ⊢
        obtain ⟨p8, hp8⟩ : ∃ p, p = wx12.heap.size := ⟨_, rfl⟩
        rw [← hp8] at hA8 hl8 hl78 ⊢
        clear hp8 hbwx18
        replace hO7 := hA7
        have hO8 := hA8
        simp only [Act.put, List.setIfInBounds_toArray, List.set_cons_zero, List.set_cons_succ]
        have hbwx19 : Below wx18.heap.size wx18 (wx18.alloc (.cells zspot 50)) := balloc (Below.refl _ _) _
        have hKwx19 := hKwx18.below hbwx19
        have hA6 := heap_alloc_new wx18 (.cells zspot 50)
        replace hA7 := heap_later hA7 hbwx19
        replace hA8 := heap_later hA8 hbwx19
        have hl76 : p7 < wx18.heap.size := (Array.getElem?_eq_some_iff.1 hO7).1
        have hl86 : p8 < wx18.heap.size := (Array.getElem?_eq_some_iff.1 hO8).1
        have hl6 := hKwx18.lt
        refine mu_alloc zspot run_alloc_zspot 6 _ rfl rfl rfl (some 3) rfl ⟨hKwx19, ?_⟩
        generalize wx18.alloc (.cells zspot 50) = wx19 at hA6 hA7 hA8 hKwx19 ⊢
        obtain ⟨p6, hp6⟩ : ∃ p, p = wx18.heap.size := ⟨_, rfl⟩
        rw [← hp6] at hA6 hl6 hl76 hl86 ⊢
        clear hp6 hbwx19
        replace hO7 := hA7
        replace hO8 := hA8
        have hO6 := hA6
        simp only [Act.put, List.setIfInBounds_toArray, List.set_cons_zero, List.set_cons_succ]
        refine mu_store_blk blkzspot 9 _ rfl rfl _ _ rfl none rfl p6 (spA3 x0 x1 x2) zspot rfl rfl hA6 rfl rfl (spA3_one _ _ _) p6 (Nat.le_refl _) ?_
        intro wy20 hgwy20 hbwy20 hkwy20 hzwy20
        have hKwy20 := hKwx19.keep p6 hl6 hkwy20 hbwy20
        have hwy207 := (hkwy20 p7 (by omega)).trans hA7
        have hwy208 := (hkwy20 p8 (by omega)).trans hA8
        refine ⟨hKwy20, ?_⟩
        simp only [Act.put]
        refine mu_store_blk blkzspot 10 _ rfl rfl _ _ rfl none rfl p7 (spA3 x3 x4 x5) zspot rfl rfl hwy207 rfl rfl (spA3_one _ _ _) p7 (Nat.le_refl _) ?_
        intro wy21 hgwy21 hbwy21 hkwy21 hzwy21
        have hKwy21 := hKwy20.keep p7 hl7 hkwy21 hbwy21
        have hwy216 := (hkwy21 p6 (by omega)).trans hgwy20
        have hwy218 := (hkwy21 p8 (by omega)).trans hwy208
        refine ⟨hKwy21, ?_⟩
        simp only [Act.put]
        refine mu_store_blk blkzspot 11 _ rfl rfl _ _ rfl none rfl p8 (spA3 x6 x7 x8) zspot rfl rfl hwy218 rfl rfl (spA3_one _ _ _) p8 (Nat.le_refl _) ?_
        intro wy22 hgwy22 hbwy22 hkwy22 hzwy22
        have hKwy22 := hKwy21.keep p8 hl8 hkwy22 hbwy22
        have hwy226 := (hkwy22 p6 (by omega)).trans hwy216
        have hwy227 := (hkwy22 p7 (by omega)).trans hgwy21
        refine ⟨hKwy22, ?_⟩
        simp only [Act.put]
        refine mu_done ?_
        exact hX p6 p7 p8 wy22 hwy226 hwy227 hgwy22 hKwy22
    · have hbwx23 : Below w4.heap.size w4 (w4.alloc (.cells zspot 50)) := balloc (Below.refl _ _) _
      have hKwx23 := hK4.below hbwx23
      have hA8 := heap_alloc_new w4 (.cells zspot 50)
      have hl8 := hK4.lt
      refine mu_alloc zspot run_alloc_zspot 8 _ rfl rfl rfl (some 5) rfl ⟨hKwx23, ?_⟩
      generalize w4.alloc (.cells zspot 50) = wx23 at hA8  hKwx23 ⊢
      obtain ⟨p8, hp8⟩ : ∃ p, p = w4.heap.size := ⟨_, rfl⟩
      rw [← hp8] at hA8 hl8  ⊢
      clear hp8 hbwx23
      have hO8 := hA8
      simp only [Act.put, List.setIfInBounds_toArray, List.set_cons_zero, List.set_cons_succ]
      refine mu_fork ?_ ?_
      · have hbwx24 : Below wx23.heap.size wx23 (wx23.alloc (.cells zspot 50)) := balloc (Below.refl _ _) _
        have hKwx24 := hKwx23.below hbwx24
        have hA6 := heap_alloc_new wx23 (.cells zspot 50)
        replace hA8 := heap_later hA8 hbwx24
        have hl86 : p8 < wx23.heap.size := (Array.getElem?_eq_some_iff.1 hO8).1
        have hl6 := hKwx23.lt
        refine mu_alloc zspot run_alloc_zspot 6 _ rfl rfl rfl (some 3) rfl ⟨hKwx24, ?_⟩
        generalize wx23.alloc (.cells zspot 50) = wx24 at hA6 hA8 hKwx24 ⊢
        obtain ⟨p6, hp6⟩ : ∃ p, p = wx23.heap.size := ⟨_, rfl⟩
        rw [← hp6] at hA6 hl6 hl86 ⊢
        clear hp6 hbwx24
        replace hO8 := hA8
        have hO6 := hA6
        simp only [Act.put, List.setIfInBounds_toArray, List.set_cons_zero, List.set_cons_succ]
        have hbwx25 : Below wx24.heap.size wx24 (wx24.alloc (.cells zspot 50)) := balloc (Below.refl _ _) _
        have hKwx25 := hKwx24.below hbwx25
        have hA7 := heap_alloc_new wx24 (.cells zspot 50)
        replace hA8 := heap_later hA8 hbwx25
        replace hA6 := heap_later hA6 hbwx25
        have hl87 : p8 < wx24.heap.size := (Array.getElem?_eq_some_iff.1 hO8).1
        have hl67 : p6 < wx24.heap.size := (Array.getElem?_eq_some_iff.1 hO6).1
        have hl7 := hKwx24.lt
        refine mu_alloc zspot run_alloc_zspot 7 _ rfl rfl rfl (some 4) rfl ⟨hKwx25, ?_⟩
        generalize wx24.alloc (.cells zspot 50) = wx25 at hA7 hA8 hA6 hKwx25 ⊢
        obtain ⟨p7, hp7⟩ : ∃ p, p = wx24.heap.size := ⟨_, rfl⟩
        rw [← hp7] at hA7 hl7 hl87 hl67 ⊢
        clear hp7 hbwx25
        replace hO8 := hA8
        replace hO6 := hA6
        have hO7 := hA7
        simp only [Act.put, List.setIfInBounds_toArray, List.set_cons_zero, List.set_cons_succ]
        refine mu_store_blk blkzspot 9 _ rfl rfl _ _ rfl none rfl p6 (spA3 x0 x1 x2) zspot rfl rfl hA6 rfl rfl (spA3_one _ _ _) p6 (Nat.le_refl _) ?_
        intro wy26 hgwy26 hbwy26 hkwy26 hzwy26
        have hKwy26 := hKwx25.keep p6 hl6 hkwy26 hbwy26
        have hwy267 := (hkwy26 p7 (by omega)).trans hA7
        have hwy268 := (hkwy26 p8 (by omega)).trans hA8
        refine ⟨hKwy26, ?_⟩
        simp only [Act.put]
        refine mu_store_blk blkzspot 10 _ rfl rfl _ _ rfl none rfl p7 (spA3 x3 x4 x5) zspot rfl rfl hwy267 rfl rfl (spA3_one _ _ _) p7 (Nat.le_refl _) ?_
        intro wy27 hgwy27 hbwy27 hkwy27 hzwy27
        have hKwy27 := hKwy26.keep p7 hl7 hkwy27 hbwy27
        have hwy276 := (hkwy27 p6 (by omega)).trans hgwy26
        have hwy278 := (hkwy27 p8 (by omega)).trans hwy268
        refine ⟨hKwy27, ?_⟩
        simp only [Act.put]
        refine mu_store_blk blkzspot 11 _ rfl rfl _ _ rfl none rfl p8 (spA3 x6 x7 x8) zspot rfl rfl hwy278 rfl rfl (spA3_one _ _ _) p8 (Nat.le_refl _) ?_
        intro wy28 hgwy28 hbwy28 hkwy28 hzwy28
        have hKwy28 := hKwy27.keep p8 hl8 hkwy28 hbwy28
        have hwy286 := (hkwy28 p6 (by omega)).trans hwy276
        have hwy287 := (hkwy28 p7 (by omega)).trans hgwy27
        refine ⟨hKwy28, ?_⟩
        simp only [Act.put]
        refine mu_done ?_
        exact hX p6 p7 p8 wy28 hwy286 hwy287 hgwy28 hKwy28
      · have hbwx29 : Below wx23.heap.size wx23 (wx23.alloc (.cells zspot 50)) := balloc (Below.refl _ _) _
        have hKwx29 := hKwx23.below hbwx29
        have hA7 := heap_alloc_new wx23 (.cells zspot 50)
        replace hA8 := heap_later hA8 hbwx29
        have hl87 : p8 < wx23.heap.size := (Array.getElem?_eq_some_iff.1 hO8).1
        have hl7 := hKwx23.lt
        refine mu_alloc zspot run_alloc_zspot 7 _ rfl rfl rfl (some 4) rfl ⟨hKwx29, ?_⟩
        generalize wx23.alloc (.cells zspot 50) = wx29 at hA7 hA8 hKwx29 ⊢
        obtain ⟨p7, hp7⟩ : ∃ p, p = wx23.heap.size := ⟨_, rfl⟩
        rw [← hp7] at hA7 hl7 hl87 ⊢
        clear hp7 hbwx29
        replace hO8 := hA8
        have hO7 := hA7
        simp only [Act.put, List.setIfInBounds_toArray, List.set_cons_zero, List.set_cons_succ]
        have hbwx30 : Below wx29.heap.size wx29 (wx29.alloc (.cells zspot 50)) := balloc (Below.refl _ _) _
        have hKwx30 := hKwx29.below hbwx30
        have hA6 := heap_alloc_new wx29 (.cells zspot 50)
        replace hA8 := heap_later hA8 hbwx30
        replace hA7 := heap_later hA7 hbwx30
        have hl86 : p8 < wx29.heap.size := (Array.getElem?_eq_some_iff.1 hO8).1
        have hl76 : p7 < wx29.heap.size := (Array.getElem?_eq_some_iff.1 hO7).1
        have hl6 := hKwx29.lt
        refine mu_alloc zspot run_alloc_zspot 6 _ rfl rfl rfl (some 3) rfl ⟨hKwx30, ?_⟩
        generalize wx29.alloc (.cells zspot 50) = wx30 at hA6 hA8 hA7 hKwx30 ⊢
        obtain ⟨p6, hp6⟩ : ∃ p, p = wx29.heap.size := ⟨_, rfl⟩
        rw [← hp6] at hA6 hl6 hl86 hl76 ⊢
        clear hp6 hbwx30
        replace hO8 := hA8
        replace hO7 := hA7
        have hO6 := hA6
        simp only [Act.put, List.setIfInBounds_toArray, List.set_cons_zero, List.set_cons_succ]
        refine mu_store_blk blkzspot 9 _ rfl rfl _ _ rfl none rfl p6 (spA3 x0 x1 x2) zspot rfl rfl hA6 rfl rfl (spA3_one _ _ _) p6 (Nat.le_refl _) ?_
        intro wy31 hgwy31 hbwy31 hkwy31 hzwy31
        have hKwy31 := hKwx30.keep p6 hl6 hkwy31 hbwy31
        have hwy317 := (hkwy31 p7 (by omega)).trans hA7
        have hwy318 := (hkwy31 p8 (by omega)).trans hA8
        refine ⟨hKwy31, ?_⟩
        simp only [Act.put]
        refine mu_store_blk blkzspot 10 _ rfl rfl _ _ rfl none rfl p7 (spA3 x3 x4 x5) zspot rfl rfl hwy317 rfl rfl (spA3_one _ _ _) p7 (Nat.le_refl _) ?_
        intro wy32 hgwy32 hbwy32 hkwy32 hzwy32
        have hKwy32 := hKwy31.keep p7 hl7 hkwy32 hbwy32
        have hwy326 := (hkwy32 p6 (by omega)).trans hgwy31
        have hwy328 := (hkwy32 p8 (by omega)).trans hwy318
        refine ⟨hKwy32, ?_⟩
        simp only [Act.put]
        refine mu_store_blk blkzspot 11 _ rfl rfl _ _ rfl none rfl p8 (spA3 x6 x7 x8) zspot rfl rfl hwy328 rfl rfl (spA3_one _ _ _) p8 (Nat.le_refl _) ?_
        intro wy33 hgwy33 hbwy33 hkwy33 hzwy33
        have hKwy33 := hKwy32.keep p8 hl8 hkwy33 hbwy33
        have hwy336 := (hkwy33 p6 (by omega)).trans hwy326
        have hwy337 := (hkwy33 p7 (by omega)).trans hgwy32
        refine ⟨hKwy33, ?_⟩
        simp only [Act.put]
        refine mu_done ?_
        exact hX p6 p7 p8 wy33 hwy336 hwy337 hgwy33 hKwy33
  case main =>
    clear hK2 hz2 HWE HW0 HW1 HW2
    intro p6 p7 p8 W h6 h7 h8 hK
    go_wp2_with fail
    have hlt := hK.lt
    refine wp_region_mix (fun w' => w'.heap[p6]? = some (.cells (spA3 x0 x1 x2) 50 (0, 0)) ∧ w'.heap[p7]? = some (.cells (spA3 x3 x4 x5) 50 (0, 0)) ∧ w'.heap[p8]? = some (.cells (spA3 x6 x7 x8) 50 (0, 0))) [2, 5, 8, 10] [0, 1, 3, 4, 6, 7, 2, 5, 8, 9, 10] (by kernel_rfl) (by kernel_rfl) (fun _ _ d _ _ h => by cases d <;> exact h) (by kernel_rfl) rfl ⟨h6, h7, h8⟩ ?_
    refine mix_take 0 _ (.agg (spA3 x3 x4 x5)) rfl rfl rfl (some 12) rfl (fun w' hw' => exec_row _ _ rfl (p7) rfl (spA3 x3 x4 x5) (blk_load blkzspot w' _ _ hw'.2.1 rfl)) ?_
    simp only [Act.put, List.setIfInBounds_toArray, List.set_cons_zero, List.set_cons_succ]
    refine mix_take 1 _ (.agg (spA3 x6 x7 x8)) rfl rfl rfl (some 13) rfl (fun w' hw' => exec_row _ _ rfl (p8) rfl (spA3 x6 x7 x8) (blk_load blkzspot w' _ _ hw'.2.2 rfl)) ?_
    simp only [Act.put, List.setIfInBounds_toArray, List.set_cons_zero, List.set_cons_succ]
    refine mix_take 3 _ (.agg (spA3 x6 x7 x8)) rfl rfl rfl (some 15) rfl (fun w' hw' => exec_row _ _ rfl (p8) rfl (spA3 x6 x7 x8) (blk_load blkzspot w' _ _ hw'.2.2 rfl)) ?_
    simp only [Act.put, List.setIfInBounds_toArray, List.set_cons_zero, List.set_cons_succ]
    refine mix_take 4 _ (.agg (spA3 x0 x1 x2)) rfl rfl rfl (some 16) rfl (fun w' hw' => exec_row _ _ rfl (p6) rfl (spA3 x0 x1 x2) (blk_load blkzspot w' _ _ hw'.1 rfl)) ?_
    simp only [Act.put, List.setIfInBounds_toArray, List.set_cons_zero, List.set_cons_succ]
    refine mix_take 6 _ (.agg (spA3 x0 x1 x2)) rfl rfl rfl (some 18) rfl (fun w' hw' => exec_row _ _ rfl (p6) rfl (spA3 x0 x1 x2) (blk_load blkzspot w' _ _ hw'.1 rfl)) ?_
    simp only [Act.put, List.setIfInBounds_toArray, List.set_cons_zero, List.set_cons_succ]
    refine mix_take 7 _ (.agg (spA3 x3 x4 x5)) rfl rfl rfl (some 19) rfl (fun w' hw' => exec_row _ _ rfl (p7) rfl (spA3 x3 x4 x5) (blk_load blkzspot w' _ _ hw'.2.1 rfl)) ?_
    simp only [Act.put, List.setIfInBounds_toArray, List.set_cons_zero, List.set_cons_succ]
    have hKd := hK.below (Below.refl _ _).drew
    replace h6 := heap_later h6 (Below.refl W.heap.size W).drew
    replace h7 := heap_later h7 (Below.refl W.heap.size W).drew
    replace h8 := heap_later h8 (Below.refl W.heap.size W).drew
    refine mix_call 2 _ rfl rfl rfl 134 #[.agg (spA3 x3 x4 x5), .agg (spA3 x6 x7 x8)] (some 14) rfl ?hr2 ?_
    case hr2 => go_simp
    refine (H0.out _).mono ?_
    rintro e w3 ⟨rfl, hb3⟩
    have hK3 := hKd.below hb3
    replace h6 := heap_later h6 hb3
    replace h7 := heap_later h7 hb3
    replace h8 := heap_later h8 hb3
    refine ⟨_, rfl, ⟨h6, h7, h8⟩, ?_⟩
    simp only [Act.put, List.setIfInBounds_toArray, List.set_cons_zero, List.set_cons_succ]
    refine mix_call 5 _ rfl rfl rfl 134 #[.agg (spA3 x6 x7 x8), .agg (spA3 x0 x1 x2)] (some 17) rfl ?hr5 ?_
    case hr5 => go_simp
    refine (H1.out _).mono ?_
    rintro e w4 ⟨rfl, hb4⟩
    have hK4 := hK3.below hb4
    replace h6 := heap_later h6 hb4
    replace h7 := heap_later h7 hb4
    replace h8 := heap_later h8 hb4
    refine ⟨_, rfl, ⟨h6, h7, h8⟩, ?_⟩
    simp only [Act.put, List.setIfInBounds_toArray, List.set_cons_zero, List.set_cons_succ]
    refine mix_call 8 _ rfl rfl rfl 134 #[.agg (spA3 x0 x1 x2), .agg (spA3 x3 x4 x5)] (some 20) rfl ?hr8 ?_
    case hr8 => go_simp
    refine (H2.out _).mono ?_
    rintro e w5 ⟨rfl, hb5⟩
    have hK5 := hK4.below hb5
    replace h6 := heap_later h6 hb5
    replace h7 := heap_later h7 hb5
    replace h8 := heap_later h8 hb5
    refine ⟨_, rfl, ⟨h6, h7, h8⟩, ?_⟩
    simp only [Act.put, List.setIfInBounds_toArray, List.set_cons_zero, List.set_cons_succ]
    refine mix_take 9 _ (.agg (spA3 o0 o1 o2)) rfl rfl rfl (some 21) rfl (fun w' hw' => exec_build3 71 0 1 2 _ _ _ rfl (.int .i64 o0) (.int .i64 o1) (.int .i64 o2) rfl rfl rfl _ (hbd w')) ?_
    simp only [Act.put, List.setIfInBounds_toArray, List.set_cons_zero, List.set_cons_succ]
    have n6 : p6 ≠ w.heap.size + 1 := fun e => by rw [e, hK5.res] at h6; simp at h6
    have n7 : p7 ≠ w.heap.size + 1 := fun e => by rw [e, hK5.res] at h7; simp at h7
    have n8 : p8 ≠ w.heap.size + 1 := fun e => by rw [e, hK5.res] at h8; simp at h8
    refine mix_store_blk blkAr 10 _ rfl rfl rfl _ _ rfl none rfl (w.heap.size + 1) (spA3 o0 o1 o2) zspot rfl rfl hK5.res rfl rfl (spA3_one _ _ _) w.heap.size (by omega) (fun w6 hg6 hb6 hk6 hz6 => ⟨⟨(hk6 _ n6).trans h6, (hk6 _ n7).trans h7, (hk6 _ n8).trans h8⟩, ?_⟩)
    simp only [Act.put]
    refine mix_done ?_
    go_wp2_with fail
    exact bodyPost_ret (results_blk1 blkAr rfl _ _ (w.heap.size + 1) _ rfl hg6 rfl) rfl ⟨rfl, hK5.old.trans hb6⟩
end Go.Proofs.Ytelchpdlfedleaa
