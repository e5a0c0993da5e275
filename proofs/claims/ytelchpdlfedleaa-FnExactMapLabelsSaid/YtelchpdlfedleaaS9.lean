import Derived.Test.YtelchpdlfedleaaS8
import Derived.Test.YtelchpdlfedleaaS7
namespace Go.Proofs.Ytelchpdlfedleaa
open Go.RowKit
set_option maxRecDepth 4000
def nzC : Value := .func (.func 118) #[] #[]
set_option maxHeartbeats 400000 in
theorem nzC_any (x : Int) (w : World) :
    Calls Try.prog 118 #[.int .i64 x] w fun e w' => e = .returned (.bool (x != 0)) ∧ w = w' := by
  go_enter Try.func118, Try.ntmps118
  go_wp2_with fail
  go_ret
  exact ⟨rfl, rfl⟩
set_option maxHeartbeats 800000 in
theorem indexFunc_nz (xs : List Int) (b cap : Nat) (w : World) (hm : xs.length ≤ 1000) (h : ∀ j, j < xs.length → w.cell? ⟨b, j, none⟩ = some (.int .i64 (xs.getD j 0))) (hex : ∃ j, j < xs.length ∧ xs.getD j 0 ≠ 0) :
    Calls Try.prog 117 #[.slice (some ⟨b, 0, none⟩) xs.length cap, nzC] w fun e w' => ∃ k : Nat, e = .returned (.int .i64 k) ∧ w = w' ∧ k < xs.length ∧ (∀ j, j < k → xs.getD j 0 = 0) ∧ xs.getD k 0 ≠ 0 := by
  have HR := Lib.hid h
  have HEX := Lib.hid hex
  have HOC : Hid (nzC = .func (.func 118) #[] #[]) := Lib.hid rfl
  clear h hex
  rw [HOC.out]
  go_enter Try.func117, Try.ntmps117
  go_wp2_with fail
  go_loop [8] (fun vk => ∃ k : Nat, k ≤ xs.length ∧ vk = .int .i64 k ∧ ∀ j, j < k → xs.getD j 0 = 0) (fun vk => xs.length - (intOf vk).toNat)
  case atStart => exact ⟨0, Nat.zero_le _, rfl, by omega⟩
  case round =>
    obtain ⟨k, hk, rfl, hall⟩ := hrel
    have HA := Lib.hid hall
    clear hall
    by_cases hlt : k < xs.length
    · have c1 := HR.out k hlt
      have hki : (k : Int) < (xs.length : Int) := by omega
      have HX : Hid (xs.getD k 0 = 0 → ∀ j, j < k + 1 → xs.getD j 0 = 0) := Lib.hid (fun hx j hj => by
        by_cases e : j = k
        · rw [e]; exact hx
        · exact HA.out j (by omega))
      by_cases hx : xs.getD k 0 = 0
      · have HXk := Lib.hid (HX.out hx)
        rw [hx] at c1
        clear hx HX
        go_wp2_with fail
        refine (nzC_any 0 w).mono ?_
        rintro e w' ⟨rfl, rfl⟩
        go_wp2_with fail
        go_round
        case rel => exact ⟨k + 1, by omega, by go_num, HXk.out⟩
        case measure => simp [intOf]; omega
      · have HN := Lib.hid hx
        obtain ⟨x, hxx⟩ : ∃ x, x = xs.getD k 0 := ⟨_, rfl⟩
        rw [← hxx] at c1 hx
        have hne : (x != 0) = true := by simpa using hx
        clear hx HX hxx
        go_wp2_with fail
        refine (nzC_any x w).mono ?_
        rintro e w' ⟨rfl, rfl⟩
        rw [hne]
        go_wp2_with fail
        go_ret
        exact ⟨k, rfl, rfl, hlt, HA.out, HN.out⟩
    · have hk2 : xs.length = k := by omega
      obtain ⟨j, hj, hj2⟩ := HEX.out
      exact absurd (HA.out j (by omega)) hj2
theorem pq3 (n i k : Nat) (hk : k < 3) : [pq n i 0, pq n i 1, pq n i 2].getD k 0 = pq n i k := by
  rcases (by omega : k = 0 ∨ k = 1 ∨ k = 2) with rfl | rfl | rfl <;> rfl
set_option maxHeartbeats 3200000 in
theorem labelAtM_any (n i : Nat) (h1 : 1 ≤ n) (h2 : n ≤ 5) (hi : i < Pr.cnt n) (im : List (List Int)) (hy : imB n im = true) (w : World) :
    Calls Try.prog 91 #[.agg (mapA n im), .agg (spA3 (pq n i 0) (pq n i 1) (pq n i 2))] w fun e w' => e = .returned (.int .i64 (lbM im n i)) ∧ Below w.heap.size w w' := by
  have hc := cnt21 n h2
  have HI := Lib.hid (fun w => index_pt n i h2 hi w)
  have HM := Lib.hid (fun w => moveAt_any n i h1 h2 hi im hy w)
  have HV1 := Lib.hid (lbM_at im n i)
  have HV2 := Lib.hid (lbM_none im n i)
  have HSM := Lib.hid (pq_sum n i)
  have HMV : Hid (mv im n i 0 = iq im i 0 - 3 * pq n i 0 ∧ mv im n i 1 = iq im i 1 - 3 * pq n i 1 ∧ mv im n i 2 = iq im i 2 - 3 * pq n i 2) := Lib.hid ⟨rfl, rfl, rfl⟩
  have hm0 := mv_bd hy h2 i 0 hi (by omega)
  have hm1 := mv_bd hy h2 i 1 hi (by omega)
  have hm2 := mv_bd hy h2 i 2 hi (by omega)
  have HVA : Hid (mvA im n i = spA3 (mv im n i 0) (mv im n i 1) (mv im n i 2)) := Lib.hid rfl
  obtain ⟨hg0, hg1⟩ : ((w.alloc (.cells (mapA n im) 53)).alloc (.cells (spA3 (pq n i 0) (pq n i 1) (pq n i 2)) 50)).heap[w.heap.size]? = some (.cells (mapA n im) 53 (0, 0)) ∧ ((w.alloc (.cells (mapA n im) 53)).alloc (.cells (spA3 (pq n i 0) (pq n i 1) (pq n i 2)) 50)).heap[w.heap.size + 1]? = some (.cells (spA3 (pq n i 0) (pq n i 1) (pq n i 2)) 50 (0, 0)) := by
    constructor
    · rw [Below.heap_alloc _ _ _ (by simp)]
      exact heap_alloc_new w _
    · have e := heap_alloc_new (w.alloc (.cells (mapA n im) 53)) (.cells (spA3 (pq n i 0) (pq n i 1) (pq n i 2)) 50)
      rwa [World.size_alloc] at e
  have hb0 := balloc (balloc (Below.refl w.heap.size w) (.cells (mapA n im) 53)) (.cells (spA3 (pq n i 0) (pq n i 1) (pq n i 2)) 50)
  have hz0 : ((w.alloc (.cells (mapA n im) 53)).alloc (.cells (spA3 (pq n i 0) (pq n i 1) (pq n i 2)) 50)).heap.size = w.heap.size + 2 := by simp
  have HP3 := Lib.hid (pq3 n i)
  have HCM := Lib.hid (mapF_zero n (mq im))
  clear hy
  rw [HVA.out] at HM
  generalize pq n i = p at *
  generalize iq im i = q at *
  generalize mv im n i 0 = m0 at *
  generalize mv im n i 1 = m1 at *
  generalize mv im n i 2 = m2 at *
  go_enter Try.func91, Try.ntmps91
  go_wp2_with fail
  generalize (w.alloc (.cells (mapA n im) 53)).alloc (.cells (spA3 (p 0) (p 1) (p 2)) 50) = w2 at hb0 hg0 hg1 hz0 ⊢
  refine wp_region_mix (fun w' => Below w2.heap.size w2 w') [4, 5] [0, 1, 2, 3, 6, 4, 5] (by kernel_rfl) (by kernel_rfl) (fun _ _ d _ _ h => by cases d <;> exact h) (by kernel_rfl) rfl ((Same.refl w2).drew _) ?_
  refine mix_take 0 _ (.agg (mapA n im)) rfl rfl rfl (some 7) rfl (fun w' hw' => exec_row _ _ rfl (w.heap.size) rfl (mapA n im) (blk_load blkM w' _ _ (((hw' : Below w2.heap.size w2 w').block _ (by omega)).trans hg0) (mapA_size _ _))) ?_
  simp only [Act.put, List.setIfInBounds_toArray, List.set_cons_zero, List.set_cons_succ]
  refine mix_take 1 _ ?_ rfl rfl rfl (some 8) rfl (fun w' hw' => ?hv1) ?_
  case hv1 =>
    go_simp
    with_reducible rfl
  simp only [Act.put, List.setIfInBounds_toArray, List.set_cons_zero, List.set_cons_succ]
  refine mix_take 2 _ ?_ rfl rfl rfl (some 9) rfl (fun w' hw' => ?hv2) ?_
  case hv2 =>
    have s0 := blk_cell (((hw' : Below w2.heap.size w2 w').block _ (by omega)).trans hg0) 0 _ HCM.out
    go_simp
    with_reducible rfl
  simp only [Act.put, List.setIfInBounds_toArray, List.set_cons_zero, List.set_cons_succ]
  refine mix_take 3 _ (.agg (spA3 (p 0) (p 1) (p 2))) rfl rfl rfl (some 10) rfl (fun w' hw' => exec_row _ _ rfl (w.heap.size + 1) rfl (spA3 (p 0) (p 1) (p 2)) (blk_load blkSp w' _ _ (((hw' : Below w2.heap.size w2 w').block _ (by omega)).trans hg1) (spA3_size _ _ _))) ?_
  simp only [Act.put, List.setIfInBounds_toArray, List.set_cons_zero, List.set_cons_succ]
  refine mix_take 6 _ ?_ rfl rfl rfl (some 13) rfl (fun w' hw' => ?hv6) ?_
  case hv6 =>
    go_simp
    with_reducible rfl
  simp only [Act.put, List.setIfInBounds_toArray, List.set_cons_zero, List.set_cons_succ]
  refine mix_call 4 _ rfl rfl rfl 116 #[.agg #[.int .i64 n], .agg (spA3 (p 0) (p 1) (p 2))] (some 11) rfl ?hr4 ?_
  case hr4 => go_simp
  refine (HI.out _).mono ?_
  rintro e w3 ⟨rfl, hb3⟩
  have hb3' : Below w2.heap.size w2 w3 := ((Same.refl w2).drew w2.heap.size).trans hb3
  refine ⟨_, rfl, hb3', ?_⟩
  simp only [Act.put, List.setIfInBounds_toArray, List.set_cons_zero, List.set_cons_succ]
  refine mix_call 5 _ rfl rfl rfl 60 #[.agg (mapA n im), .int .i64 i] (some 12) rfl ?hr5 ?_
  case hr5 => go_simp
  refine (HM.out _).mono ?_
  rintro e w4 ⟨rfl, hb4⟩
  have hb4' := bnext hb3' hb4
  refine ⟨_, rfl, hb4', ?_⟩
  simp only [Act.put, List.setIfInBounds_toArray, List.set_cons_zero, List.set_cons_succ]
  refine mix_done ?_
  have hB4 : Below w.heap.size w w4 := bnext hb0 hb4'
  have hg4 := (hb4'.block (w.heap.size + 1) (by omega)).trans hg1
  clear hb3 hb3' hb4 hb4' hg0 hb0 HI HM
  have i0 : ∀ w, (Instr.index 64 (.agg (spA3 m0 m1 m2)) (.int .i64 0)).run Try.prog w = .ok (.int .i64 m0) w := fun _ => by kernel_rfl
  have i1 : ∀ w, (Instr.index 64 (.agg (spA3 m0 m1 m2)) (.int .i64 1)).run Try.prog w = .ok (.int .i64 m1) w := fun _ => by kernel_rfl
  have i2 : ∀ w, (Instr.index 64 (.agg (spA3 m0 m1 m2)) (.int .i64 2)).run Try.prog w = .ok (.int .i64 m2) w := fun _ => by kernel_rfl
  by_cases d0 : m0 < 0
  · have HE : Hid (lbM im n i = (0 : Nat)) := Lib.hid (HV1.out 0 (by omega) (by omega) (by have := HMV.out.1; omega))
    go_wp2_with fail
    go_rounds 4
    go_ret
    exact ⟨ret_int (by rw [HE.out]; rfl), hB4⟩
  · by_cases d1 : m1 < 0
    · have HE : Hid (lbM im n i = (1 : Nat)) := Lib.hid (HV1.out 1 (by omega) (fun j hj => by have := HMV.out.1; rw [show j = 0 by omega]; omega) (by have := HMV.out.2.1; omega))
      go_wp2_with fail
      go_rounds 4
      go_ret
      exact ⟨ret_int (by rw [HE.out]; rfl), hB4⟩
    · by_cases d2 : m2 < 0
      · have HE : Hid (lbM im n i = (2 : Nat)) := Lib.hid (HV1.out 2 (by omega) (fun j hj => by
          have := HMV.out.1
          have := HMV.out.2.1
          rcases (by omega : j = 0 ∨ j = 1) with rfl | rfl <;> omega) (by have := HMV.out.2.2; omega))
        go_wp2_with fail
        go_rounds 4
        go_ret
        exact ⟨ret_int (by rw [HE.out]; rfl), hB4⟩
      · have HE := Lib.hid (HV2.out (fun j hj => by
          have := HMV.out.1
          have := HMV.out.2.1
          have := HMV.out.2.2
          rcases (by omega : j = 0 ∨ j = 1 ∨ j = 2) with rfl | rfl | rfl <;> omega))
        have HX := Lib.hid (indexFunc_nz [p 0, p 1, p 2] (w.heap.size + 1) 3 w4 (by simp) (fun j hj => by
          simp only [List.length_cons, List.length_nil] at hj
          rcases (by omega : j = 0 ∨ j = 1 ∨ j = 2) with rfl | rfl | rfl
          · exact blk_cell hg4 0 _ rfl
          · exact blk_cell hg4 1 _ rfl
          · exact blk_cell hg4 2 _ rfl) (by
          have := HSM.out
          by_cases a0 : p 0 = 0
          · by_cases a1 : p 1 = 0
            · exact ⟨2, by simp, by show p 2 ≠ 0; omega⟩
            · exact ⟨1, by simp, a1⟩
          · exact ⟨0, by simp, a0⟩))
        go_wp2_with fail
        refine wp_loop_rounds 4 ?_
        rw [rounds_succ]
        go_wp2_with fail
        rw [rounds_succ]
        go_wp2_with fail
        rw [rounds_succ]
        go_wp2_with fail
        rw [rounds_succ]
        go_wp2_with fail
        refine HX.out.mono ?_
        rintro e w5 ⟨k, rfl, rfl, hk, hz, hnz⟩
        have HK : Hid (lbM im n i = (k : Nat)) := Lib.hid (HE.out k (by simpa using hk) (fun j hj => by rw [← HP3.out j (by simp at hk; omega)]; exact hz j hj) (by rw [← HP3.out k (by simpa using hk)]; exact hnz))
        clear hk hz hnz
        go_wp2_with fail
        go_ret
        exact ⟨ret_int (by rw [HK.out]), hB4⟩
end Go.Proofs.Ytelchpdlfedleaa
