import Derived.LoopN
import Derived.BigRegion
import Derived.BigQuiet
import Derived.RegionTactic
import Derived.Test.YtlkgmnmnlfaopaaS46
import Derived.Test.YtlkgmnmnlfaopaaQw
namespace Go.Proofs.Ytlkgmnmnlfaopaa
open Go.RowKit
set_option maxRecDepth 4000
theorem run_build_spot (x y z : Int) (w : World) : (Instr.build 79 #[(0, .int .i64 x), (1, .int .i64 y), (2, .int .i64 z)]).run Try.prog w = .ok (.agg (spA3 x y z)) w := by kernel_rfl
set_option maxHeartbeats 3200000 in
theorem turnedAt_any (n i : Nat) (h1 : 1 ≤ n) (h2 : n ≤ 5) (im : List (List Int)) (_ : imB n im = true) (hi : i < Pr.cnt n) (w : World) :
    Calls Try.prog 97 #[.agg (mapA n im), .agg (spA3 (pq n i 0) (pq n i 1) (pq n i 2))] w fun e w' => e = .returned (.agg (spA3 (tuF im n i 0) (tuF im n i 1) (tuF im n i 2))) ∧ Below w.heap.size w w' := by
  have hc21 := cnt21 n h2
  have hJ := tq_lt n (by omega) i (by omega) hi
  have hsum := pq_sum n i
  obtain ⟨x0, x1⟩ := pq_bd n i 0 (by omega) hi (by omega)
  obtain ⟨y0, y1⟩ := pq_bd n i 1 (by omega) hi (by omega)
  have HJI : Hid (((Pr.T ((n : Int) - pq n i 1).toNat : Nat) : Int) + pq n i 0 = ((tqN n i : Nat) : Int)) := Lib.hid (by unfold tqN; omega)
  have HIX := Lib.hid (fun w' => indexOf_any n (pq n i 1) (pq n i 2) (pq n i 0) (by omega) (by omega) (by omega) (by omega) (by omega) w')
  rw [HJI.out] at HIX
  have HIA := Lib.hid (fun w' => imageAt_any n (tqN n i) (by omega) im w')
  have HSZ := mapA_size n im
  have HA0 : (mapA n im)[0]? = some (.int .i64 n) := mapF_zero _ _
  have HTE : Hid (iq im (tqN n i) 2 = tuF im n i 0 ∧ iq im (tqN n i) 0 = tuF im n i 1 ∧ iq im (tqN n i) 1 = tuF im n i 2) := Lib.hid ⟨rfl, rfl, rfl⟩
  rw [← HTE.out.1, ← HTE.out.2.1, ← HTE.out.2.2]
  obtain ⟨w1, hw1⟩ : ∃ w1, w1 = (w.alloc (.cells (mapA n im) 87)) := ⟨_, rfl⟩
  obtain ⟨w2, hw2⟩ : ∃ w2, w2 = (w1.alloc (.cells (spA3 (pq n i 0) (pq n i 1) (pq n i 2)) 79)) := ⟨_, rfl⟩
  obtain ⟨w3, hw3⟩ : ∃ w3, w3 = (w2.alloc (.cells zspot 79)) := ⟨_, rfl⟩
  have hb1 : Below w.heap.size w w1 := by rw [hw1]; exact balloc (Below.refl w.heap.size w) _
  have hb2 : Below w1.heap.size w1 w2 := by rw [hw2]; exact balloc (Below.refl w1.heap.size w1) _
  have hb3 : Below w2.heap.size w2 w3 := by rw [hw3]; exact balloc (Below.refl w2.heap.size w2) _
  have hz1 : w1.heap.size = w.heap.size + 1 := by rw [hw1]; simp
  have hz2 : w2.heap.size = w.heap.size + 2 := by rw [hw2, World.size_alloc, hz1]
  have hz3 : w3.heap.size = w.heap.size + 3 := by rw [hw3, World.size_alloc, hz2]
  have g1 : w1.heap[w.heap.size]? = some (.cells (mapA n im) 87 (0, 0)) := by rw [hw1]; exact heap_alloc_new w _
  have g1 := hq_later (hq_later g1 hb2) hb3
  have g2 : w2.heap[w.heap.size + 1]? = some (.cells (spA3 (pq n i 0) (pq n i 1) (pq n i 2)) 79 (0, 0)) := by rw [hw2, ← hz1]; exact heap_alloc_new w1 _
  have g2 := hq_later g2 hb3
  have g3 : w3.heap[w.heap.size + 1 + 1]? = some (.cells zspot 79 (0, 0)) := by rw [hw3, show w.heap.size + 1 + 1 = w2.heap.size by omega]; exact heap_alloc_new w2 _
  have hb := bnext (bnext hb1 hb2) hb3
  have HZ3 := Lib.hid hz3
  have HW1 := Lib.hid hw1
  have HW2 := Lib.hid hw2
  have HW3 := Lib.hid hw3
  have HK := Lib.hid (fun w' (hb : Below w3.heap.size w3 w') => (⟨hq_later g1 hb, blk_cell (hq_later g1 hb) 0 _ HA0, blk_cell (hq_later g2 hb) 0 _ rfl, blk_cell (hq_later g2 hb) 1 _ rfl, blk_cell (hq_later g2 hb) 2 _ rfl⟩ :
    w'.heap[w.heap.size]? = some (.cells (mapA n im) 87 (0, 0)) ∧ w'.cell? ⟨w.heap.size, 0, none⟩ = some (.int .i64 n) ∧ w'.cell? ⟨w.heap.size + 1, 0, none⟩ = some (.int .i64 (pq n i 0)) ∧ w'.cell? ⟨w.heap.size + 1, 1, none⟩ = some (.int .i64 (pq n i 1)) ∧ w'.cell? ⟨w.heap.size + 1, 2, none⟩ = some (.int .i64 (pq n i 2))))
  clear hw1 hw2 hw3 hb1 hb2 hb3 hz1 hz2 hz3 g1 g2 HJI HTE hsum x0 x1 y0 y1 HA0
  generalize mapA n im = fA at *
  generalize pq n i 0 = p0 at *
  generalize pq n i 1 = p1 at *
  generalize pq n i 2 = p2 at *
  generalize iq im (tqN n i) 0 = q0 at *
  generalize iq im (tqN n i) 1 = q1 at *
  generalize iq im (tqN n i) 2 = q2 at *
  generalize tqN n i = J at *
  go_enter Try.func97, Try.ntmps97
  go_wp2_with ((with_reducible refine alloc_blk zspot run_alloc_sp rfl rfl ?_); simp only [World.size_alloc, Act.put, List.setIfInBounds_toArray, List.set_cons_zero, List.set_cons_succ])
  rw [← HW1.out, ← HW2.out, ← HW3.out]
  refine (fun (hX : ∀ (g : Nat) (w7 : World), w7.heap[g]? = some (.cells (spA3 q0 q1 q2) 79 (0, 0)) → w3.heap.size ≤ g → Below w3.heap.size w3 w7 → (?X : Nat → World → Prop) g w7) => ?reg) ?main
  case reg =>
    have hbd : Below w3.heap.size w3 w3.drew := (Same.refl w3).drew _
    refine wp_region_mt (fun w' => Below w3.heap.size w3 w') (.take 0 (.take 1 (.take 2 (.take 3 (.take 4 (.take 5 (.take 6 (.take 7 (.take 8 (.take 9 (.fork 10 (.fork 11 (.sole 12 (.sole 13 .done)) 12 (.sole 11 (.sole 13 .done))) 12 (.sole 10 (.sole 11 (.sole 13 .done)))))))))))))) (by kernel_rfl) (by kernel_rfl) (fun _ _ d _ _ h => by cases d <;> exact h) (by kernel_rfl) rfl hbd ?_
    refine mt_take 0 _ (.agg fA) rfl rfl (some 6) rfl (fun w' hw' => exec_row _ _ rfl (w.heap.size) rfl fA (blk_load blkM w' _ _ (HK.out w' hw').1 HSZ)) ?_
    simp only [Act.put, List.setIfInBounds_toArray, List.set_cons_zero, List.set_cons_succ]
    refine mt_take 1 _ ?_ rfl rfl (some 7) rfl (fun w' hw' => ?hv1) ?_
    case hv1 =>
      go_simp
      with_reducible rfl
    simp only [Act.put, List.setIfInBounds_toArray, List.set_cons_zero, List.set_cons_succ]
    refine mt_take 2 _ ?_ rfl rfl (some 8) rfl (fun w' hw' => ?hv2) ?_
    case hv2 =>
      have s0 := (HK.out w' hw').2.1
      go_simp
      with_reducible rfl
    simp only [Act.put, List.setIfInBounds_toArray, List.set_cons_zero, List.set_cons_succ]
    refine mt_take 3 _ ?_ rfl rfl (some 9) rfl (fun w' hw' => ?hv3) ?_
    case hv3 =>
      go_simp
      with_reducible rfl
    simp only [Act.put, List.setIfInBounds_toArray, List.set_cons_zero, List.set_cons_succ]
    refine mt_take 4 _ ?_ rfl rfl (some 10) rfl (fun w' hw' => ?hv4) ?_
    case hv4 =>
      have s0 := (HK.out w' hw').2.2.2.1
      go_simp
      with_reducible rfl
    simp only [Act.put, List.setIfInBounds_toArray, List.set_cons_zero, List.set_cons_succ]
    refine mt_take 5 _ ?_ rfl rfl (some 11) rfl (fun w' hw' => ?hv5) ?_
    case hv5 =>
      go_simp
      with_reducible rfl
    simp only [Act.put, List.setIfInBounds_toArray, List.set_cons_zero, List.set_cons_succ]
    refine mt_take 6 _ ?_ rfl rfl (some 12) rfl (fun w' hw' => ?hv6) ?_
    case hv6 =>
      have s0 := (HK.out w' hw').2.2.2.2
      go_simp
      with_reducible rfl
    simp only [Act.put, List.setIfInBounds_toArray, List.set_cons_zero, List.set_cons_succ]
    refine mt_take 7 _ ?_ rfl rfl (some 13) rfl (fun w' hw' => ?hv7) ?_
    case hv7 =>
      go_simp
      with_reducible rfl
    simp only [Act.put, List.setIfInBounds_toArray, List.set_cons_zero, List.set_cons_succ]
    refine mt_take 8 _ ?_ rfl rfl (some 14) rfl (fun w' hw' => ?hv8) ?_
    case hv8 =>
      have s0 := (HK.out w' hw').2.2.1
      go_simp
      with_reducible rfl
    simp only [Act.put, List.setIfInBounds_toArray, List.set_cons_zero, List.set_cons_succ]
    refine mt_take 9 _ (.agg (spA3 p1 p2 p0)) rfl rfl (some 15) rfl (fun w' hw' => exec_build3 79 0 1 2 _ _ _ rfl (.int .i64 p1) (.int .i64 p2) (.int .i64 p0) rfl rfl rfl _ (run_build_spot p1 p2 p0 w')) ?_
    simp only [Act.put, List.setIfInBounds_toArray, List.set_cons_zero, List.set_cons_succ]
    refine mt_fork ?_ ?_
    · skip
      refine mt_call 10 _ rfl rfl 116 #[.agg #[.int .i64 n], .agg (spA3 p1 p2 p0)] (some 16) rfl ?hr ?_
      case hr => go_simp
      refine (HIX.out _).mono ?_
      rintro e x1 ⟨rfl, hqx1⟩
      have hQx1 := hbd.trans (hqx1.mono hbd.size)
      refine ⟨_, rfl, hQx1, ?_⟩
      simp only [Act.put, List.setIfInBounds_toArray, List.set_cons_zero, List.set_cons_succ]
      refine mt_fork ?_ ?_
      · skip
        refine mt_call 11 _ rfl rfl 115 #[.agg fA, .int .i64 (J : Nat)] (some 17) rfl ?hr ?_
        case hr => go_simp
        refine (HIA.out _).mono ?_
        rintro e x2 ⟨rfl, hqx2⟩
        have hQx2 := hQx1.trans (hqx2.mono hQx1.size)
        refine ⟨_, rfl, hQx2, ?_⟩
        simp only [Act.put, List.setIfInBounds_toArray, List.set_cons_zero, List.set_cons_succ]
        have hg := heap_alloc_new x2 (.cells zspot 79)
        have hQx3 : Below w3.heap.size w3 (x2.alloc (.cells zspot 79)) := hQx2.alloc hQx2.size _
        refine mt_alloc zspot run_alloc_sp 12 _ rfl rfl rfl (some 5) rfl ⟨hQx3, ?_⟩
        generalize x2.alloc (.cells zspot 79) = x3 at hg hQx3 ⊢
        obtain ⟨g, hgeq⟩ : ∃ g, g = x2.heap.size := ⟨_, rfl⟩
        have hgi : w3.heap.size ≤ g := by rw [hgeq]; exact hQx2.size
        rw [← hgeq] at hg ⊢
        clear hgeq
        simp only [Act.put, List.setIfInBounds_toArray, List.set_cons_zero, List.set_cons_succ]
        refine mt_store_blk blkSp 13 _ rfl rfl _ _ rfl none rfl g (spA3 q0 q1 q2) zspot rfl rfl hg zspot_size (spA3_size _ _ _) (spA3_one _ _ _) w3.heap.size hgi ?_
        intro w8 hg8 hb8 hk8 hz8
        have hB8 := hQx3.trans hb8
        refine ⟨hB8, ?_⟩
        simp only [Act.put]
        refine mt_done ?_
        exact hX g w8 hg8 hgi hB8
      · skip
        have hg := heap_alloc_new x1 (.cells zspot 79)
        have hQx4 : Below w3.heap.size w3 (x1.alloc (.cells zspot 79)) := hQx1.alloc hQx1.size _
        refine mt_alloc zspot run_alloc_sp 12 _ rfl rfl rfl (some 5) rfl ⟨hQx4, ?_⟩
        generalize x1.alloc (.cells zspot 79) = x4 at hg hQx4 ⊢
        obtain ⟨g, hgeq⟩ : ∃ g, g = x1.heap.size := ⟨_, rfl⟩
        have hgi : w3.heap.size ≤ g := by rw [hgeq]; exact hQx1.size
        rw [← hgeq] at hg ⊢
        clear hgeq
        simp only [Act.put, List.setIfInBounds_toArray, List.set_cons_zero, List.set_cons_succ]
        refine mt_call 11 _ rfl rfl 115 #[.agg fA, .int .i64 (J : Nat)] (some 17) rfl ?hr ?_
        case hr => go_simp
        refine (HIA.out _).mono ?_
        rintro e x5 ⟨rfl, hqx5⟩
        have hQx5 := hQx4.trans (hqx5.mono hQx4.size)
        refine ⟨_, rfl, hQx5, ?_⟩
        simp only [Act.put, List.setIfInBounds_toArray, List.set_cons_zero, List.set_cons_succ]
        replace hg := hq_later hg hqx5
        refine mt_store_blk blkSp 13 _ rfl rfl _ _ rfl none rfl g (spA3 q0 q1 q2) zspot rfl rfl hg zspot_size (spA3_size _ _ _) (spA3_one _ _ _) w3.heap.size hgi ?_
        intro w8 hg8 hb8 hk8 hz8
        have hB8 := hQx5.trans hb8
        refine ⟨hB8, ?_⟩
        simp only [Act.put]
        refine mt_done ?_
        exact hX g w8 hg8 hgi hB8
    · skip
      have hg := heap_alloc_new w3.drew (.cells zspot 79)
      have hQx6 : Below w3.heap.size w3 (w3.drew.alloc (.cells zspot 79)) := hbd.alloc hbd.size _
      refine mt_alloc zspot run_alloc_sp 12 _ rfl rfl rfl (some 5) rfl ⟨hQx6, ?_⟩
      generalize w3.drew.alloc (.cells zspot 79) = x6 at hg hQx6 ⊢
      obtain ⟨g, hgeq⟩ : ∃ g, g = w3.drew.heap.size := ⟨_, rfl⟩
      have hgi : w3.heap.size ≤ g := by rw [hgeq]; exact hbd.size
      rw [← hgeq] at hg ⊢
      clear hgeq
      simp only [Act.put, List.setIfInBounds_toArray, List.set_cons_zero, List.set_cons_succ]
      refine mt_call 10 _ rfl rfl 116 #[.agg #[.int .i64 n], .agg (spA3 p1 p2 p0)] (some 16) rfl ?hr ?_
      case hr => go_simp
      refine (HIX.out _).mono ?_
      rintro e x7 ⟨rfl, hqx7⟩
      have hQx7 := hQx6.trans (hqx7.mono hQx6.size)
      refine ⟨_, rfl, hQx7, ?_⟩
      simp only [Act.put, List.setIfInBounds_toArray, List.set_cons_zero, List.set_cons_succ]
      replace hg := hq_later hg hqx7
      refine mt_call 11 _ rfl rfl 115 #[.agg fA, .int .i64 (J : Nat)] (some 17) rfl ?hr ?_
      case hr => go_simp
      refine (HIA.out _).mono ?_
      rintro e x8 ⟨rfl, hqx8⟩
      have hQx8 := hQx7.trans (hqx8.mono hQx7.size)
      refine ⟨_, rfl, hQx8, ?_⟩
      simp only [Act.put, List.setIfInBounds_toArray, List.set_cons_zero, List.set_cons_succ]
      replace hg := hq_later hg hqx8
      refine mt_store_blk blkSp 13 _ rfl rfl _ _ rfl none rfl g (spA3 q0 q1 q2) zspot rfl rfl hg zspot_size (spA3_size _ _ _) (spA3_one _ _ _) w3.heap.size hgi ?_
      intro w8 hg8 hb8 hk8 hz8
      have hB8 := hQx8.trans hb8
      refine ⟨hB8, ?_⟩
      simp only [Act.put]
      refine mt_done ?_
      exact hX g w8 hg8 hgi hB8
  case main =>
    intro g w7 hg hgl hb7
    have k3 := hq_later g3 hb7
    have s0 : w7.cell? ⟨g, 0, none⟩ = some (.int .i64 q0) := blk_cell hg 0 _ rfl
    have s1 : w7.cell? ⟨g, 1, none⟩ = some (.int .i64 q1) := blk_cell hg 1 _ rfl
    have s2 : w7.cell? ⟨g, 2, none⟩ = some (.int .i64 q2) := blk_cell hg 2 _ rfl
    have hbs := run_build_spot q2 q0 q1
    go_wp2_with (first | (with_reducible refine build_blk (spA3 q2 q0 q1) #[(0, .int .i64 q2), (1, .int .i64 q0), (2, .int .i64 q1)] hbs rfl _ rfl rfl ?_) | ((with_reducible refine store_blk blkSp rfl _ _ rfl (w.heap.size + 1 + 1) (spA3 q2 q0 q1) (zspot) ?_ ?_ k3 (zspot_size) ((spA3_size _ _ _)) ((spA3_one _ _ _)) (w.heap.size) (by omega) ?_); exact rfl; exact rfl; intro w8 hg8 hb8 hk8 hz8))
    exact bodyPost_ret (results_blk1 blkSp rfl _ _ (w.heap.size + 1 + 1) _ rfl hg8 rfl) rfl ⟨rfl, (bnext hb hb7).trans hb8⟩
set_option maxHeartbeats 3200000 in
theorem implTurnedImages (n : Int) (im : List (List Int)) (a : Option Addr) (cap : Nat) (w : World) (h : RdSS w w.heap.size a im) :
    Calls Try.prog 52 #[.int .i64 n, .slice a im.length cap] w (OutTurnedImages w (if imgB n im then imF (Pr.cnt n.toNat) (tuF im n.toNat) else []) (imgB n im)) := by
  cases hy : imgB n im
  · have HC := Lib.hid (mappedOf_fail n im hy a cap w h)
    clear h hy
    go_enter Try.func52, Try.ntmps52
    go_wp2_with fail
    refine HC.out.mono ?_
    rintro e w1 ⟨rfl, hb1⟩
    have hz1 := hb1.size
    go_wp2_with (first | (with_reducible refine alloc_blk zeroM run_alloc_map rfl rfl ?_) | ((with_reducible refine store_blk blkM rfl _ _ rfl w1.heap.size (zeroM) zeroM ?_ ?_ (heap_alloc_new _ _) zeroM_size (zeroM_size) (zeroM_one) w1.heap.size (Nat.le_refl _) ?_); exact rfl; exact rfl; intro w2 hg2 hb2 hk2 hz2))
    go_returns
    exact ⟨_, rfl, ossnil _ _ _, (balloc hb1 _).trans (hb2.mono hz1)⟩
  · rw [if_pos rfl]
    obtain ⟨n, rfl, h1, h2, hy⟩ := imgB_yes hy
    rw [Int.toNat_natCast]
    have HC := Lib.hid (mappedOf_yes n h1 h2 im hy a cap w h)
    have HIM := Lib.hid (fun w' => imagesByT_any n h1 h2 (tuF im n) (mapA n im) w' (fun i hi w'' _ => turnedAt_any n i h1 h2 im hy hi w''))
    have HSZ := mapA_size n im
    have HON := mapA_one n im
    have HA0 : (mapA n im)[0]? = some (.int .i64 n) := mapF_zero _ _
    have hmf : ∀ (fn : Fn) (first cap : Array Value) (w : World), (Instr.makeFunc fn first cap).run Try.prog w = .ok (.func fn first cap) w := fun _ _ _ _ => rfl
    clear h hy
    generalize mapA n im = fA at *
    generalize imF (Pr.cnt n) (tuF im n) = R at *
    go_enter Try.func52, Try.ntmps52
    go_wp2_with fail
    refine HC.out.mono ?_
    rintro e w1 ⟨rfl, hb1⟩
    have hz1 := hb1.size
    go_wp2_with (first | (with_reducible refine alloc_blk zeroM run_alloc_map rfl rfl ?_) | ((with_reducible refine store_blk blkM rfl _ _ rfl w1.heap.size (fA) zeroM ?_ ?_ (heap_alloc_new _ _) zeroM_size (HSZ) (HON) w1.heap.size (Nat.le_refl _) ?_); exact rfl; exact rfl; intro w2 hg2 hb2 hk2 hz2; have s0 := blk_cell hg2 0 _ HA0) | ((with_reducible refine load_blk blkM ?_ _ rfl (w1.heap.size) ?_ (fA) hg2 (HSZ) ?_); exact rfl; exact rfl; simp only [Act.put, List.setIfInBounds_toArray, List.set_cons_zero, List.set_cons_succ]))
    have hB2 : Below w.heap.size w w2 := (balloc hb1 _).trans (hb2.mono hz1)
    refine (HIM.out _).mono ?_
    rintro e w3 ⟨v, rfl, hc, hb3⟩
    obtain ⟨va, vm, vc, rfl⟩ := cells_shape hc
    have hz2 := hB2.size
    go_wp2_with fail
    go_returns
    exact ⟨_, rfl, osslow (oss_new hc) hz2, bnext hB2 hb3⟩
theorem ti_len (n : Int) (im : List (List Int)) : (if imgB n im then imF (Pr.cnt n.toNat) (tuF im n.toNat) else []).length ≤ 100000 := by
  cases h : imgB n im
  · simp
  · rw [if_pos rfl, imF_len]
    obtain ⟨m, rfl, h1, h2, -⟩ := imgB_yes h
    have := cnt21 m h2
    rw [Int.toNat_natCast]
    omega
theorem ti_row (n : Int) (im : List (List Int)) (k : Nat) : ((if imgB n im then imF (Pr.cnt n.toNat) (tuF im n.toNat) else []).getD k []).length ≤ 1000 := by
  cases h : imgB n im
  · simp
  · rw [if_pos rfl]
    by_cases hk : k < Pr.cnt n.toNat
    · rw [imF_at _ _ _ hk]; simp
    · rw [List.getD_eq_getElem?_getD, List.getElem?_eq_none (by rw [imF_len]; omega)]; simp
theorem law_TurnedImages (w : World) (n : Int) (_ : (Lit.int .i64 n).wf = true) (im : List (List Int)) (a_im : Option Addr) (c_im : Nat) (h_im : RdSS w w.heap.size a_im im) :
    Calls Try.prog 14 #[.int .i64 n, .slice a_im im.length c_im] w fun e w' => e = .returned (.bool true) ∧ Below w.heap.size w w' :=
  lawOf_TurnedImages n im a_im c_im w h_im _ _ (ti_len n im) (ti_row n im) (fun a c w _ h => specTurnedImages n im a c w h) (fun a c w _ h => implTurnedImages n im a c w h)
end Go.Proofs.Ytlkgmnmnlfaopaa
