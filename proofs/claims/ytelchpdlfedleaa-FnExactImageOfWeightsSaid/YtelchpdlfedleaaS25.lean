import Derived.LoopN
import Derived.BigRegion
import Derived.RegionTactic
import Derived.Test.YtelchpdlfedleaaS24
import Derived.Test.YtelchpdlfedleaaS19s
import Derived.Test.YtelchpdlfedleaaZd
import Derived.Test.YtelchpdlfedleaaUs
namespace Go.Proofs.Ytelchpdlfedleaa
open Go.RowKit
set_option maxRecDepth 4000
def sgI (s : Int) : Int := if s < 0 then -1 else if 0 < s then 1 else 0
theorem sgI_bd (s : Int) : -15 ≤ sgI s ∧ sgI s ≤ 15 := by unfold sgI; split <;> (try split) <;> omega
theorem sg_has (a b c : Int) (h : hasV a b c = 1 ∨ hasV a b c = -1) : sgI (a + b + c) = hasV a b c := by
  unfold hasV sgI at *
  by_cases a1 : 0 < a ∧ 0 < b ∧ 0 < c
  · rw [if_pos a1]; split <;> (try split) <;> omega
  · rw [if_neg a1] at h ⊢
    by_cases a2 : a < 0 ∧ b < 0 ∧ c < 0
    · rw [if_pos a2]; split <;> (try split) <;> omega
    · rw [if_neg a2] at h
      split at h <;> omega
set_option maxHeartbeats 400000 in
theorem isNaN_int (s : Int) (w : World) : Calls Try.prog 144 #[.int .i64 s] w fun e w' => e = .returned (.bool false) ∧ w = w' := by
  have hne : (s != s) = false := by simp
  go_enter Try.func144, Try.ntmps144
  go_wp2_with fail
  go_ret
  exact ⟨rfl, rfl⟩
set_option maxHeartbeats 400000 in
theorem compare0 (s : Int) (w : World) : Calls Try.prog 133 #[.int .i64 s, .int .i64 0] w fun e w' => e = .returned (.int .i64 (sgI s)) ∧ w = w' := by
  by_cases h1 : s < 0
  · have HE : Hid (sgI s = -1) := Lib.hid (if_pos h1)
    have d1 : decide (s < 0) = true := by simpa using h1
    go_enter Try.func133, Try.ntmps133
    go_wp2_with fail
    refine (isNaN_int s _).mono ?_
    rintro e w' ⟨rfl, rfl⟩
    go_wp2_with fail
    refine (isNaN_int 0 _).mono ?_
    rintro e w' ⟨rfl, rfl⟩
    go_wp2_with fail
    go_ret
    exact ⟨ret_int HE.out.symm, rfl⟩
  · have d1 : decide (s < 0) = false := by simpa using h1
    by_cases h2 : 0 < s
    · have HE : Hid (sgI s = 1) := Lib.hid (by unfold sgI; rw [if_neg h1, if_pos h2])
      have d2 : decide (0 < s) = true := by simpa using h2
      go_enter Try.func133, Try.ntmps133
      go_wp2_with fail
      refine (isNaN_int s _).mono ?_
      rintro e w' ⟨rfl, rfl⟩
      go_wp2_with fail
      refine (isNaN_int 0 _).mono ?_
      rintro e w' ⟨rfl, rfl⟩
      go_wp2_with fail
      go_ret
      exact ⟨ret_int HE.out.symm, rfl⟩
    · have HE : Hid (sgI s = 0) := Lib.hid (by unfold sgI; rw [if_neg h1, if_neg h2])
      have d2 : decide (0 < s) = false := by simpa using h2
      go_enter Try.func133, Try.ntmps133
      go_wp2_with fail
      refine (isNaN_int s _).mono ?_
      rintro e w' ⟨rfl, rfl⟩
      go_wp2_with fail
      refine (isNaN_int 0 _).mono ?_
      rintro e w' ⟨rfl, rfl⟩
      go_wp2_with fail
      go_ret
      exact ⟨ret_int HE.out.symm, rfl⟩
set_option maxHeartbeats 400000 in
theorem direction_any (x y z : Int) (hx : -450 ≤ x ∧ x ≤ 450) (hy : -450 ≤ y ∧ y ≤ 450) (hz : -450 ≤ z ∧ z ≤ 450) (w : World) :
    Calls Try.prog 108 #[.agg (spA3 x y z)] w fun e w' => e = .returned (.int .i64 (sgI (x + y + z))) ∧ Below w.heap.size w w' := by
  obtain ⟨x0, x1⟩ := hx
  obtain ⟨y0, y1⟩ := hy
  obtain ⟨z0, z1⟩ := hz
  show Calls Try.prog _ #[.agg #[.int .i64 x, .int .i64 y, .int .i64 z]] _ _
  go_enter Try.func108, Try.ntmps108
  go_wp2_with fail
  refine (compare0 (x + y + z) _).mono ?_
  rintro e w' ⟨rfl, rfl⟩
  go_wp2_with fail
  go_ret
  exact ⟨rfl, balloc (Below.refl _ _) _⟩
/-- The sign of a cell's fixed point. -/
def sgK (im : List (List Int)) (n k : Nat) : Int := if upS n (cl n k) = true then hasK im n k else -hasK im n k
/-- Which way round the points of a cell come. -/
def pa (n p q r : Nat) : Int := (pq n q 0 * pq n r 1 - pq n q 1 * pq n r 0) + (pq n r 0 * pq n p 1 - pq n r 1 * pq n p 0) + (pq n p 0 * pq n q 1 - pq n p 1 * pq n q 0)
theorem pa_up : ∀ n, n < 6 → ∀ k, k < (ci n).length → sgI (pa n (cq n k 0) (cq n k 1) (cq n k 2)) = if upS n (cl n k) = true then 1 else -1 := by decide +kernel
theorem sgK_eq (im : List (List Int)) (n k : Nat) (h2 : n ≤ 5) (hk : k < (ci n).length) (h : agK im n k = true) :
    sgI (ar im n (cq n k 1) (cq n k 2) + ar im n (cq n k 2) (cq n k 0) + ar im n (cq n k 0) (cq n k 1)) * sgI (pa n (cq n k 0) (cq n k 1) (cq n k 2)) = sgK im n k := by
  have h1 := sg_has (ar im n (cq n k 1) (cq n k 2)) (ar im n (cq n k 2) (cq n k 0)) (ar im n (cq n k 0) (cq n k 1)) (show hasK im n k = 1 ∨ hasK im n k = -1 by simpa [agK] using h)
  rw [h1, pa_up n (by omega) k hk, sgK]
  change hasK im n k * _ = _
  split <;> omega
theorem pq_small (n : Nat) (h2 : n ≤ 5) (i k : Nat) (hi : i < Pr.cnt n) (hk : k < 3) : -15 ≤ pq n i k ∧ pq n i k ≤ 15 := by
  have := pq_bd n i k (by omega) hi hk
  omega
set_option maxHeartbeats 3200000 in
theorem signIn_any (n k : Nat) (h1 : 1 ≤ n) (h2 : n ≤ 5) (hk : k < (ci n).length) (im : List (List Int)) (hy : imB n im = true) (hg : agK im n k = true) (w : World) :
    Calls Try.prog 69 #[.agg (mapA n im), .agg (trA n k)] w fun e w' => e = .returned (.int .i64 (sgK im n k)) ∧ Below w.heap.size w w' := by
  have hp := cl_lt n k (by omega) hk 0 (by omega)
  have hq := cl_lt n k (by omega) hk 1 (by omega)
  have hr := cl_lt n k (by omega) hk 2 (by omega)
  have h45 := cnt21 n h2
  change cq n k 0 < _ at hp
  change cq n k 1 < _ at hq
  change cq n k 2 < _ at hr
  have HA := Lib.hid (fun w => areasIn_cell n k h1 h2 hk im hy w)
  have HD1 := Lib.hid (fun w => direction_any (ar im n (cq n k 1) (cq n k 2)) (ar im n (cq n k 2) (cq n k 0)) (ar im n (cq n k 0) (cq n k 1)) (ar_bd hy h2 _ _ hq hr) (ar_bd hy h2 _ _ hr hp) (ar_bd hy h2 _ _ hp hq) w)
  have HC := Lib.hid (fun w => corners_spot 83 (.agg #[.int .i64 n]) (fun _ _ => rfl) (cq n k 0 : Nat) (cq n k 1 : Nat) (cq n k 2 : Nat) (pq n (cq n k 0) 0) (pq n (cq n k 0) 1) (pq n (cq n k 0) 2) (pq n (cq n k 1) 0) (pq n (cq n k 1) 1) (pq n (cq n k 1) 2) (pq n (cq n k 2) 0) (pq n (cq n k 2) 1) (pq n (cq n k 2) 2) (fun w => spotAt_any n (cq n k 0) h1 (by omega) (by omega) w) (fun w => spotAt_any n (cq n k 1) h1 (by omega) (by omega) w) (fun w => spotAt_any n (cq n k 2) h1 (by omega) (by omega) w) w)
  have PS := fun i hi j hj => pq_small n h2 i j hi hj
  have HP := Lib.hid (fun w => areasOf_spot (pq n (cq n k 0) 0) (pq n (cq n k 0) 1) (pq n (cq n k 0) 2) (pq n (cq n k 1) 0) (pq n (cq n k 1) 1) (pq n (cq n k 1) 2) (pq n (cq n k 2) 0) (pq n (cq n k 2) 1) (pq n (cq n k 2) 2) (PS _ hp 0 (by omega)) (PS _ hp 1 (by omega)) (PS _ hq 0 (by omega)) (PS _ hq 1 (by omega)) (PS _ hr 0 (by omega)) (PS _ hr 1 (by omega)) w)
  have bd : ∀ a b c d : Int, (-15 ≤ a ∧ a ≤ 15) → (-15 ≤ b ∧ b ≤ 15) → (-15 ≤ c ∧ c ≤ 15) → (-15 ≤ d ∧ d ≤ 15) → -450 ≤ a * b - c * d ∧ a * b - c * d ≤ 450 := fun a b c d ha hb hc hd => by
    have := mul_bd a b ha hb
    have := mul_bd c d hc hd
    omega
  have HD2 := Lib.hid (fun w => direction_any (pq n (cq n k 1) 0 * pq n (cq n k 2) 1 - pq n (cq n k 1) 1 * pq n (cq n k 2) 0) (pq n (cq n k 2) 0 * pq n (cq n k 0) 1 - pq n (cq n k 2) 1 * pq n (cq n k 0) 0) (pq n (cq n k 0) 0 * pq n (cq n k 1) 1 - pq n (cq n k 0) 1 * pq n (cq n k 1) 0) (bd _ _ _ _ (PS _ hq 0 (by omega)) (PS _ hr 1 (by omega)) (PS _ hq 1 (by omega)) (PS _ hr 0 (by omega))) (bd _ _ _ _ (PS _ hr 0 (by omega)) (PS _ hp 1 (by omega)) (PS _ hr 1 (by omega)) (PS _ hp 0 (by omega))) (bd _ _ _ _ (PS _ hp 0 (by omega)) (PS _ hq 1 (by omega)) (PS _ hp 1 (by omega)) (PS _ hq 0 (by omega))) w)
  have HS := Lib.hid (sgK_eq im n k h2 hk hg)
  have HPA : Hid (pa n (cq n k 0) (cq n k 1) (cq n k 2) = (pq n (cq n k 1) 0 * pq n (cq n k 2) 1 - pq n (cq n k 1) 1 * pq n (cq n k 2) 0) + (pq n (cq n k 2) 0 * pq n (cq n k 0) 1 - pq n (cq n k 2) 1 * pq n (cq n k 0) 0) + (pq n (cq n k 0) 0 * pq n (cq n k 1) 1 - pq n (cq n k 0) 1 * pq n (cq n k 1) 0)) := Lib.hid rfl
  rw [HPA.out] at HS
  have HM := Lib.hid (mapF_zero n (mq im))
  have hb1 := sgI_bd (ar im n (cq n k 1) (cq n k 2) + ar im n (cq n k 2) (cq n k 0) + ar im n (cq n k 0) (cq n k 1))
  have hb2 := sgI_bd ((pq n (cq n k 1) 0 * pq n (cq n k 2) 1 - pq n (cq n k 1) 1 * pq n (cq n k 2) 0) + (pq n (cq n k 2) 0 * pq n (cq n k 0) 1 - pq n (cq n k 2) 1 * pq n (cq n k 0) 0) + (pq n (cq n k 0) 0 * pq n (cq n k 1) 1 - pq n (cq n k 0) 1 * pq n (cq n k 1) 0))
  clear hy hg PS bd HPA
  generalize pq n (cq n k 1) 0 * pq n (cq n k 2) 1 - pq n (cq n k 1) 1 * pq n (cq n k 2) 0 = o0 at *
  generalize pq n (cq n k 2) 0 * pq n (cq n k 0) 1 - pq n (cq n k 2) 1 * pq n (cq n k 0) 0 = o1 at *
  generalize pq n (cq n k 0) 0 * pq n (cq n k 1) 1 - pq n (cq n k 0) 1 * pq n (cq n k 1) 0 = o2 at *
  generalize sgI (o0 + o1 + o2) = s2 at *
  generalize sgI (ar im n (cq n k 1) (cq n k 2) + ar im n (cq n k 2) (cq n k 0) + ar im n (cq n k 0) (cq n k 1)) = s1 at *
  have hmul := mul_bd s1 s2 hb1 hb2
  have hwr : IntKind.i64.wrap (s1 * s2) = s1 * s2 := IntWalk.i64_in _ ⟨by omega, by omega⟩
  obtain ⟨g0, g1⟩ := heap2 w (.cells (mapA n im) 53) (.cells (trA n k) 61)
  have hb0 := balloc (balloc (Below.refl w.heap.size w) (.cells (mapA n im) 53)) (.cells (trA n k) 61)
  have hz0 : ((w.alloc (.cells (mapA n im) 53)).alloc (.cells (trA n k) 61)).heap.size = w.heap.size + 2 := by simp
  have hmf : ∀ (fn : Fn) (first cap : Array Value) (w : World), (Instr.makeFunc fn first cap).run Try.prog w = .ok (.func fn first cap) w := fun _ _ _ _ => rfl
  go_enter Try.func69, Try.ntmps69
  go_wp2_with fail
  generalize (w.alloc (.cells (mapA n im) 53)).alloc (.cells (trA n k) 61) = w2 at hb0 g0 g1 hz0 ⊢
  refine wp_region_mix (fun w' => Below w2.heap.size w2 w') [2, 3, 8, 9, 10] [0, 1, 4, 5, 6, 7, 2, 3, 8, 9, 10, 11, 12] (by kernel_rfl) (by kernel_rfl) (fun _ _ d _ _ h => by cases d <;> exact h) (by kernel_rfl) rfl ((Same.refl w2).drew _) ?_
  refine mix_take 0 _ (.agg (mapA n im)) rfl rfl rfl (some 5) rfl (fun w' hw' => exec_row _ _ rfl (w.heap.size) rfl (mapA n im) (blk_load blkM w' _ _ (((hw' : Below w2.heap.size w2 w').block _ (by omega)).trans g0) (mapA_size _ _))) ?_
  simp only [Act.put, List.setIfInBounds_toArray, List.set_cons_zero, List.set_cons_succ]
  refine mix_take 1 _ (.agg (trA n k)) rfl rfl rfl (some 6) rfl (fun w' hw' => exec_row _ _ rfl (w.heap.size + 1) rfl (trA n k) (blk_load blkTr w' _ _ (((hw' : Below w2.heap.size w2 w').block _ (by omega)).trans g1) (trA_size _ _))) ?_
  simp only [Act.put, List.setIfInBounds_toArray, List.set_cons_zero, List.set_cons_succ]
  refine mix_take 4 _ (.agg (trA n k)) rfl rfl rfl (some 9) rfl (fun w' hw' => exec_row _ _ rfl (w.heap.size + 1) rfl (trA n k) (blk_load blkTr w' _ _ (((hw' : Below w2.heap.size w2 w').block _ (by omega)).trans g1) (trA_size _ _))) ?_
  simp only [Act.put, List.setIfInBounds_toArray, List.set_cons_zero, List.set_cons_succ]
  refine mix_take 5 _ ?_ rfl rfl rfl (some 10) rfl (fun w' hw' => ?hv5) ?_
  case hv5 =>
    go_simp
    with_reducible rfl
  simp only [Act.put, List.setIfInBounds_toArray, List.set_cons_zero, List.set_cons_succ]
  refine mix_take 6 _ ?_ rfl rfl rfl (some 11) rfl (fun w' hw' => ?hv6) ?_
  case hv6 =>
    have s0 := blk_cell (((hw' : Below w2.heap.size w2 w').block _ (by omega)).trans g0) 0 _ HM.out
    go_simp
    with_reducible rfl
  simp only [Act.put, List.setIfInBounds_toArray, List.set_cons_zero, List.set_cons_succ]
  refine mix_take 7 _ ?_ rfl rfl rfl (some 12) rfl (fun w' hw' => ?hv7) ?_
  case hv7 =>
    go_simp
    with_reducible rfl
  simp only [Act.put, List.setIfInBounds_toArray, List.set_cons_zero, List.set_cons_succ]
  refine mix_call 2 _ rfl rfl rfl 63 #[.agg (mapA n im), .agg (trA n k)] (some 7) rfl ?hr2 ?_
  case hr2 => go_simp
  refine (HA.out _).mono ?_
  rintro e w3 ⟨rfl, hb3⟩
  have hb3' : Below w2.heap.size w2 w3 := ((Same.refl w2).drew w2.heap.size).trans hb3
  refine ⟨_, rfl, hb3', ?_⟩
  simp only [Act.put, List.setIfInBounds_toArray, List.set_cons_zero, List.set_cons_succ]
  refine mix_call 3 _ rfl rfl rfl 108 #[.agg (arK im n k)] (some 8) rfl ?hr3 ?_
  case hr3 => go_simp
  refine (HD1.out _).mono ?_
  rintro e w4 ⟨rfl, hb4⟩
  have hb4' := bnext hb3' hb4
  refine ⟨_, rfl, hb4', ?_⟩
  simp only [Act.put, List.setIfInBounds_toArray, List.set_cons_zero, List.set_cons_succ]
  refine mix_call 8 _ rfl rfl rfl 82 #[.agg (trA n k), .func (.func 83) #[.agg #[.int .i64 n]] #[]] (some 13) rfl ?hr8 ?_
  case hr8 => go_simp
  refine (HC.out _).mono ?_
  rintro e w5 ⟨rfl, hb5⟩
  have hb5' := bnext hb4' hb5
  refine ⟨_, rfl, hb5', ?_⟩
  simp only [Act.put, List.setIfInBounds_toArray, List.set_cons_zero, List.set_cons_succ]
  refine mix_call 9 _ rfl rfl rfl 109 #[.agg (n9 (pq n (cq n k 0) 0) (pq n (cq n k 0) 1) (pq n (cq n k 0) 2) (pq n (cq n k 1) 0) (pq n (cq n k 1) 1) (pq n (cq n k 1) 2) (pq n (cq n k 2) 0) (pq n (cq n k 2) 1) (pq n (cq n k 2) 2))] (some 14) rfl ?hr9 ?_
  case hr9 => go_simp
  refine (HP.out _).mono ?_
  rintro e w6 ⟨rfl, hb6⟩
  have hb6' := bnext hb5' hb6
  refine ⟨_, rfl, hb6', ?_⟩
  simp only [Act.put, List.setIfInBounds_toArray, List.set_cons_zero, List.set_cons_succ]
  refine mix_call 10 _ rfl rfl rfl 108 #[.agg (spA3 o0 o1 o2)] (some 15) rfl ?hr10 ?_
  case hr10 => go_simp
  refine (HD2.out _).mono ?_
  rintro e w7 ⟨rfl, hb7⟩
  have hb7' := bnext hb6' hb7
  refine ⟨_, rfl, hb7', ?_⟩
  simp only [Act.put, List.setIfInBounds_toArray, List.set_cons_zero, List.set_cons_succ]
  refine mix_take 11 _ ?_ rfl rfl rfl (some 16) rfl (fun w' hw' => ?hv11) ?_
  case hv11 =>
    go_simp
    with_reducible rfl
  simp only [Act.put, List.setIfInBounds_toArray, List.set_cons_zero, List.set_cons_succ]
  refine mix_take 12 _ ?_ rfl rfl rfl (some 4) rfl (fun w' hw' => ?hv12) ?_
  case hv12 =>
    go_simp
    with_reducible rfl
  simp only [Act.put, List.setIfInBounds_toArray, List.set_cons_zero, List.set_cons_succ]
  refine mix_done ?_
  go_wp2_with fail
  go_ret
  exact ⟨ret_int HS.out, bnext hb0 hb7'⟩
end Go.Proofs.Ytelchpdlfedleaa
