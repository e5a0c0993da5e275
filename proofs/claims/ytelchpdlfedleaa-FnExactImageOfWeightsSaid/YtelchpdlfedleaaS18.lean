import Derived.LoopN
import Derived.BigRegion
import Derived.BigQuiet
import Derived.RegionTactic
import Derived.Test.YtelchpdlfedleaaS11
import Derived.Test.YtelchpdlfedleaaMa
import Derived.Test.YtelchpdlfedleaaZg
namespace Go.Proofs.Ytelchpdlfedleaa
open Go.RowKit
set_option maxRecDepth 4000
set_option maxHeartbeats 6400000 in
theorem fxAreas_any (n : Nat) (h1 : 1 ≤ n) (h2 : n ≤ 5) (im : List (List Int)) (hy : imB n im = true) (p q r : Nat) (hp : p < Pr.cnt n) (hq : q < Pr.cnt n) (hr : r < Pr.cnt n) (a a2 : Option Addr) (cap cap2 b2 : Nat) (w : World) (h : RdSS w w.heap.size a im) (hrc : Rd w a2 b2 0 ([p, q, r].map (fun (i : Nat) => (i : Int)))) (hb2 : b2 < w.heap.size) :
    Calls Try.prog 62 #[.int .i64 n, .slice a im.length cap, .slice a2 3 cap2] w fun e w' => ∃ v, e = .returned v ∧ OI w' w.heap.size w'.heap.size v (arC im n p q r) ∧ Below w.heap.size w w' := by
  have HM := Lib.hid (fxMoves_any n h1 h2 im hy [p, q, r] rfl (fun k hk => by rcases (by omega : k = 0 ∨ k = 1 ∨ k = 2) with rfl | rfl | rfl <;> assumption) a a2 cap cap2 b2 w h hrc hb2)
  have HB : Hid (∀ i, i < Pr.cnt n → ∀ k, k < 3 → -15 ≤ mv im n i k ∧ mv im n i k ≤ 15) := Lib.hid (fun i hi k hk => mv_bd hy h2 i k hi hk)
  obtain ⟨p0, p1⟩ := HB.out p hp 0 (by omega)
  obtain ⟨p2, p3⟩ := HB.out p hp 1 (by omega)
  obtain ⟨q0, q1⟩ := HB.out q hq 0 (by omega)
  obtain ⟨q2, q3⟩ := HB.out q hq 1 (by omega)
  obtain ⟨r0, r1⟩ := HB.out r hr 0 (by omega)
  obtain ⟨r2, r3⟩ := HB.out r hr 1 (by omega)
  have HV : Hid (arC im n p q r = [mv im n q 0 * mv im n r 1 - mv im n q 1 * mv im n r 0, mv im n r 0 * mv im n p 1 - mv im n r 1 * mv im n p 0, mv im n p 0 * mv im n q 1 - mv im n p 1 * mv im n q 0]) := Lib.hid rfl
  have HMV : Hid (mvs im n [p, q, r] = [[mv im n p 0, mv im n p 1, mv im n p 2], [mv im n q 0, mv im n q 1, mv im n q 2], [mv im n r 0, mv im n r 1, mv im n r 2]]) := Lib.hid rfl
  generalize mv im n p 0 = x0 at *
  generalize mv im n p 1 = y0 at *
  generalize mv im n p 2 = z0 at *
  generalize mv im n q 0 = x1 at *
  generalize mv im n q 1 = y1 at *
  generalize mv im n q 2 = z1 at *
  generalize mv im n r 0 = x2 at *
  generalize mv im n r 1 = y2 at *
  generalize mv im n r 2 = z2 at *
  clear h hrc hy HB
  go_enter Try.func62, Try.ntmps62
  go_wp2_with fail
  refine HM.out.mono ?_
  rintro e w1 ⟨v, rfl, hc, hb1⟩
  rw [HMV.out] at hc
  obtain ⟨sa, sm, sc, rfl⟩ := cells_shape hc
  obtain ⟨rfl, -, hrows⟩ := cells_row hc
  obtain ⟨g, ra0, rc0, rb0, rfl, -, hgl, d0, k0, s0, -, -⟩ := hrows 0 (by simp)
  obtain ⟨g', ra1, rc1, rb1, hg1, -, -, d1, k1, s1, -, -⟩ := hrows 1 (by simp)
  obtain ⟨g'', ra2, rc2, rb2, hg2, -, -, d2, k2, s2, -, -⟩ := hrows 2 (by simp)
  obtain rfl : g = g' := by simpa using hg1
  obtain rfl : g = g'' := by simpa using hg2
  obtain ⟨rfl, m00⟩ := s0.2 0 (by simp)
  have m01 := (s0.2 1 (by simp)).2
  obtain ⟨rfl, m10⟩ := s1.2 0 (by simp)
  have m11 := (s1.2 1 (by simp)).2
  obtain ⟨rfl, m20⟩ := s2.2 0 (by simp)
  have m21 := (s2.2 1 (by simp)).2
  have l0 : rb0 < w1.heap.size := (k0.resolve_left (by simp)).2.1
  have l1 : rb1 < w1.heap.size := (k1.resolve_left (by simp)).2.1
  have l2 : rb2 < w1.heap.size := (k2.resolve_left (by simp)).2.1
  have HC : Hid (∀ W, Below w1.heap.size w1 W → W.cell? ⟨g, 0, none⟩ = some (.slice (some ⟨rb0, 0, none⟩) 3 rc0) ∧ W.cell? ⟨g, 1, none⟩ = some (.slice (some ⟨rb1, 0, none⟩) 3 rc1) ∧ W.cell? ⟨g, 2, none⟩ = some (.slice (some ⟨rb2, 0, none⟩) 3 rc2)) := Lib.hid (fun W hb => ⟨(hb.cell (p := ⟨g, 0, none⟩) hgl).trans d0, (hb.cell (p := ⟨g, 1, none⟩) hgl).trans d1, (hb.cell (p := ⟨g, 2, none⟩) hgl).trans d2⟩)
  have HN : Hid (∀ W, Below w1.heap.size w1 W → (W.cell? ⟨rb0, 0, none⟩ = some (.int .i64 x0) ∧ W.cell? ⟨rb0, 1, none⟩ = some (.int .i64 y0)) ∧ (W.cell? ⟨rb1, 0, none⟩ = some (.int .i64 x1) ∧ W.cell? ⟨rb1, 1, none⟩ = some (.int .i64 y1)) ∧ (W.cell? ⟨rb2, 0, none⟩ = some (.int .i64 x2) ∧ W.cell? ⟨rb2, 1, none⟩ = some (.int .i64 y2))) := Lib.hid (fun W hb => ⟨⟨(hb.cell (p := ⟨rb0, 0, none⟩) l0).trans m00, (hb.cell (p := ⟨rb0, 1, none⟩) l0).trans m01⟩, ⟨(hb.cell (p := ⟨rb1, 0, none⟩) l1).trans m10, (hb.cell (p := ⟨rb1, 1, none⟩) l1).trans m11⟩, ⟨(hb.cell (p := ⟨rb2, 0, none⟩) l2).trans m20, (hb.cell (p := ⟨rb2, 1, none⟩) l2).trans m21⟩⟩)
  have hz1 := hb1.size
  have hO0 : w1.ownsRow w1.heap.size 3 1 (.slice none 0 0) ([] : List Int).length (([] : List Int).map (Value.int .i64)) := World.ownsRow_nil _ _ _ _
  have hBw0 := Below.refl w1.heap.size w1
  have HHV := Lib.hid HV
  clear hrows hc d0 d1 d2 m00 m01 m10 m11 m20 m21 s0 s1 s2 k0 k1 k2 hg1 hg2 l0 l1 l2 hgl
  have hcell0 := HC.out _ hBw0
  go_wp2_with fail
  refine wp_loop_rounds 4 ?_
  rw [rounds_succ]
  obtain ⟨e0, e1, e2⟩ := HC.out _ hBw0
  have hB15 := mul_bd x1 y2 ⟨by omega, by omega⟩ ⟨by omega, by omega⟩
  have hB16 := mul_bd y1 x2 ⟨by omega, by omega⟩ ⟨by omega, by omega⟩
  go_wp2_with fail
  go_quiet (fail)
  obtain ⟨wn0, hwn0⟩ : ∃ wn0, wn0 = w1.drewN nq := ⟨_, rfl⟩
  have hBn0 : Below w1.heap.size w1 wn0 := by rw [hwn0]; exact hBw0.trans ((Same.refl _).drewN _ _)
  have hOn0 := own_now hO0 (show Below w1.heap.size w1 wn0 by rw [hwn0]; exact (Same.refl _).drewN _ _)
  rw [← hwn0]
  clear hwn0 e0 e1 e2
  go_wp2_with fail
  have hwa : IntKind.i64.wrap (x1 * y2) = x1 * y2 := IntWalk.i64_in _ ⟨by omega, by omega⟩
  have hwb : IntKind.i64.wrap (y1 * x2) = y1 * x2 := IntWalk.i64_in _ ⟨by omega, by omega⟩
  have hwc : IntKind.i64.wrap (x1 * y2 - y1 * x2) = x1 * y2 - y1 * x2 := IntWalk.i64_in _ ⟨by omega, by omega⟩
  refine wp_region_mix (fun w' => Below w1.heap.size w1 w') [16, 17] [0, 1, 2, 3, 4, 5, 6, 7, 8, 9, 10, 11, 12, 13, 14, 15, 16, 17, 18] (by kernel_rfl) (by kernel_rfl) (fun _ _ d _ _ h => by cases d <;> exact h) (by kernel_rfl) rfl hBn0.drew ?_
  refine mix_take 0 _ ?_ rfl rfl rfl (some 32) rfl (fun w' hw' => ?hv0) ?_
  case hv0 =>
    go_simp
    with_reducible rfl
  simp only [Act.put, List.setIfInBounds_toArray, List.set_cons_zero, List.set_cons_succ]
  refine mix_take 1 _ ?_ rfl rfl rfl (some 33) rfl (fun w' hw' => ?hv1) ?_
  case hv1 =>
    go_simp
    with_reducible rfl
  simp only [Act.put, List.setIfInBounds_toArray, List.set_cons_zero, List.set_cons_succ]
  refine mix_take 2 _ ?_ rfl rfl rfl (some 34) rfl (fun w' hw' => ?hv2) ?_
  case hv2 =>
    go_simp
    with_reducible rfl
  simp only [Act.put, List.setIfInBounds_toArray, List.set_cons_zero, List.set_cons_succ]
  refine mix_take 3 _ ?_ rfl rfl rfl (some 35) rfl (fun w' hw' => ?hv3) ?_
  case hv3 =>
    have u0 := HN.out w' hw'
    obtain ⟨⟨t00, t01⟩, ⟨t10, t11⟩, t20, t21⟩ := u0
    go_simp
    with_reducible rfl
  simp only [Act.put, List.setIfInBounds_toArray, List.set_cons_zero, List.set_cons_succ]
  refine mix_take 4 _ ?_ rfl rfl rfl (some 36) rfl (fun w' hw' => ?hv4) ?_
  case hv4 =>
    go_simp
    with_reducible rfl
  simp only [Act.put, List.setIfInBounds_toArray, List.set_cons_zero, List.set_cons_succ]
  refine mix_take 5 _ ?_ rfl rfl rfl (some 37) rfl (fun w' hw' => ?hv5) ?_
  case hv5 =>
    go_simp
    with_reducible rfl
  simp only [Act.put, List.setIfInBounds_toArray, List.set_cons_zero, List.set_cons_succ]
  refine mix_take 6 _ ?_ rfl rfl rfl (some 38) rfl (fun w' hw' => ?hv6) ?_
  case hv6 =>
    have u0 := HN.out w' hw'
    obtain ⟨⟨t00, t01⟩, ⟨t10, t11⟩, t20, t21⟩ := u0
    go_simp
    with_reducible rfl
  simp only [Act.put, List.setIfInBounds_toArray, List.set_cons_zero, List.set_cons_succ]
  refine mix_take 7 _ ?_ rfl rfl rfl (some 39) rfl (fun w' hw' => ?hv7) ?_
  case hv7 =>
    go_simp
    with_reducible rfl
  simp only [Act.put, List.setIfInBounds_toArray, List.set_cons_zero, List.set_cons_succ]
  refine mix_take 8 _ ?_ rfl rfl rfl (some 40) rfl (fun w' hw' => ?hv8) ?_
  case hv8 =>
    go_simp
    with_reducible rfl
  simp only [Act.put, List.setIfInBounds_toArray, List.set_cons_zero, List.set_cons_succ]
  refine mix_take 9 _ ?_ rfl rfl rfl (some 41) rfl (fun w' hw' => ?hv9) ?_
  case hv9 =>
    go_simp
    with_reducible rfl
  simp only [Act.put, List.setIfInBounds_toArray, List.set_cons_zero, List.set_cons_succ]
  refine mix_take 10 _ ?_ rfl rfl rfl (some 42) rfl (fun w' hw' => ?hv10) ?_
  case hv10 =>
    have u0 := HN.out w' hw'
    obtain ⟨⟨t00, t01⟩, ⟨t10, t11⟩, t20, t21⟩ := u0
    go_simp
    with_reducible rfl
  simp only [Act.put, List.setIfInBounds_toArray, List.set_cons_zero, List.set_cons_succ]
  refine mix_take 11 _ ?_ rfl rfl rfl (some 43) rfl (fun w' hw' => ?hv11) ?_
  case hv11 =>
    go_simp
    with_reducible rfl
  simp only [Act.put, List.setIfInBounds_toArray, List.set_cons_zero, List.set_cons_succ]
  refine mix_take 12 _ ?_ rfl rfl rfl (some 44) rfl (fun w' hw' => ?hv12) ?_
  case hv12 =>
    go_simp
    with_reducible rfl
  simp only [Act.put, List.setIfInBounds_toArray, List.set_cons_zero, List.set_cons_succ]
  refine mix_take 13 _ ?_ rfl rfl rfl (some 45) rfl (fun w' hw' => ?hv13) ?_
  case hv13 =>
    have u0 := HN.out w' hw'
    obtain ⟨⟨t00, t01⟩, ⟨t10, t11⟩, t20, t21⟩ := u0
    go_simp
    with_reducible rfl
  simp only [Act.put, List.setIfInBounds_toArray, List.set_cons_zero, List.set_cons_succ]
  refine mix_take 14 _ ?_ rfl rfl rfl (some 46) rfl (fun w' hw' => ?hv14) ?_
  case hv14 =>
    go_simp
    with_reducible rfl
  simp only [Act.put, List.setIfInBounds_toArray, List.set_cons_zero, List.set_cons_succ]
  refine mix_take 15 _ ?_ rfl rfl rfl (some 47) rfl (fun w' hw' => ?hv15) ?_
  case hv15 =>
    go_simp
    with_reducible rfl
  simp only [Act.put, List.setIfInBounds_toArray, List.set_cons_zero, List.set_cons_succ]
  have hod0 := own_now hOn0 ((Below.refl wn0.heap.size wn0).drew)
  have hBd0 : Below w1.heap.size w1 wn0.drew := hBn0.drew
  have hzd0 := hBd0.size
  clear hwa hwb hwc hB15 hB16
  generalize x1 * y2 - y1 * x2 = o0 at *
  generalize wn0.drew = wd0 at hod0 hBd0 hzd0 ⊢
  have hba0 := balloc (Below.refl wd0.heap.size wd0) (.cells #[.int .i64 o0] 3)
  refine mix_build_int 16 _ rfl rfl rfl _ rfl (some 48) rfl o0 rfl ⟨hBd0.trans (hba0.mono hzd0), ?_⟩
  simp only [Act.put, List.setIfInBounds_toArray, List.set_cons_zero, List.set_cons_succ]
  refine mix_append_int 17 _ rfl rfl w1.heap.size wd0.heap.size _ ([] : List Int) o0 rfl _ _ rfl (some 49) rfl rfl rfl (World.cell?_alloc_at _ _ _ _ rfl) (own_now hod0 hba0) (by simp only [World.size_alloc]; omega) (by simp) ?_
  intro vm0 wm0 hOmm0 hbm0 _
  have hBwm0 : Below w1.heap.size w1 wm0 := (hBd0.trans (hba0.mono hzd0)).trans hbm0
  have hOm0 : wm0.ownsRow w1.heap.size 3 1 vm0 [o0].length ([o0].map (Value.int .i64)) := hOmm0
  refine ⟨hBwm0, ?_⟩
  simp only [Act.put, List.setIfInBounds_toArray, List.set_cons_zero, List.set_cons_succ]
  refine mix_take 18 _ ?_ rfl rfl rfl (some 8) rfl (fun w' hw' => ?hv18) ?_
  case hv18 =>
    go_simp
    with_reducible rfl
  simp only [Act.put, List.setIfInBounds_toArray, List.set_cons_zero, List.set_cons_succ]
  refine mix_done ?_
  clear hOmm0 hbm0 hba0 hod0 hBd0 hOn0 hBn0 hzd0 hBw0 hO0
  go_wp2_with fail
  rw [rounds_succ]
  obtain ⟨e0, e1, e2⟩ := HC.out _ hBwm0
  have hB15 := mul_bd x2 y0 ⟨by omega, by omega⟩ ⟨by omega, by omega⟩
  have hB16 := mul_bd y2 x0 ⟨by omega, by omega⟩ ⟨by omega, by omega⟩
  go_wp2_with fail
  go_quiet (fail)
  obtain ⟨wn1, hwn1⟩ : ∃ wn1, wn1 = wm0.drewN nq := ⟨_, rfl⟩
  have hBn1 : Below w1.heap.size w1 wn1 := by rw [hwn1]; exact hBwm0.trans ((Same.refl _).drewN _ _)
  have hOn1 := own_now hOm0 (show Below wm0.heap.size wm0 wn1 by rw [hwn1]; exact (Same.refl _).drewN _ _)
  rw [← hwn1]
  clear hwn1 e0 e1 e2
  go_wp2_with fail
  have hwa : IntKind.i64.wrap (x2 * y0) = x2 * y0 := IntWalk.i64_in _ ⟨by omega, by omega⟩
  have hwb : IntKind.i64.wrap (y2 * x0) = y2 * x0 := IntWalk.i64_in _ ⟨by omega, by omega⟩
  have hwc : IntKind.i64.wrap (x2 * y0 - y2 * x0) = x2 * y0 - y2 * x0 := IntWalk.i64_in _ ⟨by omega, by omega⟩
  refine wp_region_mix (fun w' => Below w1.heap.size w1 w') [16, 17] [0, 1, 2, 3, 4, 5, 6, 7, 8, 9, 10, 11, 12, 13, 14, 15, 16, 17, 18] (by kernel_rfl) (by kernel_rfl) (fun _ _ d _ _ h => by cases d <;> exact h) (by kernel_rfl) rfl hBn1.drew ?_
  refine mix_take 0 _ ?_ rfl rfl rfl (some 32) rfl (fun w' hw' => ?hv0) ?_
  case hv0 =>
    go_simp
    with_reducible rfl
  simp only [Act.put, List.setIfInBounds_toArray, List.set_cons_zero, List.set_cons_succ]
  refine mix_take 1 _ ?_ rfl rfl rfl (some 33) rfl (fun w' hw' => ?hv1) ?_
  case hv1 =>
    go_simp
    with_reducible rfl
  simp only [Act.put, List.setIfInBounds_toArray, List.set_cons_zero, List.set_cons_succ]
  refine mix_take 2 _ ?_ rfl rfl rfl (some 34) rfl (fun w' hw' => ?hv2) ?_
  case hv2 =>
    go_simp
    with_reducible rfl
  simp only [Act.put, List.setIfInBounds_toArray, List.set_cons_zero, List.set_cons_succ]
  refine mix_take 3 _ ?_ rfl rfl rfl (some 35) rfl (fun w' hw' => ?hv3) ?_
  case hv3 =>
    have u0 := HN.out w' hw'
    obtain ⟨⟨t00, t01⟩, ⟨t10, t11⟩, t20, t21⟩ := u0
    go_simp
    with_reducible rfl
  simp only [Act.put, List.setIfInBounds_toArray, List.set_cons_zero, List.set_cons_succ]
  refine mix_take 4 _ ?_ rfl rfl rfl (some 36) rfl (fun w' hw' => ?hv4) ?_
  case hv4 =>
    go_simp
    with_reducible rfl
  simp only [Act.put, List.setIfInBounds_toArray, List.set_cons_zero, List.set_cons_succ]
  refine mix_take 5 _ ?_ rfl rfl rfl (some 37) rfl (fun w' hw' => ?hv5) ?_
  case hv5 =>
    go_simp
    with_reducible rfl
  simp only [Act.put, List.setIfInBounds_toArray, List.set_cons_zero, List.set_cons_succ]
  refine mix_take 6 _ ?_ rfl rfl rfl (some 38) rfl (fun w' hw' => ?hv6) ?_
  case hv6 =>
    have u0 := HN.out w' hw'
    obtain ⟨⟨t00, t01⟩, ⟨t10, t11⟩, t20, t21⟩ := u0
    go_simp
    with_reducible rfl
  simp only [Act.put, List.setIfInBounds_toArray, List.set_cons_zero, List.set_cons_succ]
  refine mix_take 7 _ ?_ rfl rfl rfl (some 39) rfl (fun w' hw' => ?hv7) ?_
  case hv7 =>
    go_simp
    with_reducible rfl
  simp only [Act.put, List.setIfInBounds_toArray, List.set_cons_zero, List.set_cons_succ]
  refine mix_take 8 _ ?_ rfl rfl rfl (some 40) rfl (fun w' hw' => ?hv8) ?_
  case hv8 =>
    go_simp
    with_reducible rfl
  simp only [Act.put, List.setIfInBounds_toArray, List.set_cons_zero, List.set_cons_succ]
  refine mix_take 9 _ ?_ rfl rfl rfl (some 41) rfl (fun w' hw' => ?hv9) ?_
  case hv9 =>
    go_simp
    with_reducible rfl
  simp only [Act.put, List.setIfInBounds_toArray, List.set_cons_zero, List.set_cons_succ]
  refine mix_take 10 _ ?_ rfl rfl rfl (some 42) rfl (fun w' hw' => ?hv10) ?_
  case hv10 =>
    have u0 := HN.out w' hw'
    obtain ⟨⟨t00, t01⟩, ⟨t10, t11⟩, t20, t21⟩ := u0
    go_simp
    with_reducible rfl
  simp only [Act.put, List.setIfInBounds_toArray, List.set_cons_zero, List.set_cons_succ]
  refine mix_take 11 _ ?_ rfl rfl rfl (some 43) rfl (fun w' hw' => ?hv11) ?_
  case hv11 =>
    go_simp
    with_reducible rfl
  simp only [Act.put, List.setIfInBounds_toArray, List.set_cons_zero, List.set_cons_succ]
  refine mix_take 12 _ ?_ rfl rfl rfl (some 44) rfl (fun w' hw' => ?hv12) ?_
  case hv12 =>
    go_simp
    with_reducible rfl
  simp only [Act.put, List.setIfInBounds_toArray, List.set_cons_zero, List.set_cons_succ]
  refine mix_take 13 _ ?_ rfl rfl rfl (some 45) rfl (fun w' hw' => ?hv13) ?_
  case hv13 =>
    have u0 := HN.out w' hw'
    obtain ⟨⟨t00, t01⟩, ⟨t10, t11⟩, t20, t21⟩ := u0
    go_simp
    with_reducible rfl
  simp only [Act.put, List.setIfInBounds_toArray, List.set_cons_zero, List.set_cons_succ]
  refine mix_take 14 _ ?_ rfl rfl rfl (some 46) rfl (fun w' hw' => ?hv14) ?_
  case hv14 =>
    go_simp
    with_reducible rfl
  simp only [Act.put, List.setIfInBounds_toArray, List.set_cons_zero, List.set_cons_succ]
  refine mix_take 15 _ ?_ rfl rfl rfl (some 47) rfl (fun w' hw' => ?hv15) ?_
  case hv15 =>
    go_simp
    with_reducible rfl
  simp only [Act.put, List.setIfInBounds_toArray, List.set_cons_zero, List.set_cons_succ]
  have hod1 := own_now hOn1 ((Below.refl wn1.heap.size wn1).drew)
  have hBd1 : Below w1.heap.size w1 wn1.drew := hBn1.drew
  have hzd1 := hBd1.size
  clear hwa hwb hwc hB15 hB16
  generalize x2 * y0 - y2 * x0 = o1 at *
  generalize wn1.drew = wd1 at hod1 hBd1 hzd1 ⊢
  have hba1 := balloc (Below.refl wd1.heap.size wd1) (.cells #[.int .i64 o1] 3)
  refine mix_build_int 16 _ rfl rfl rfl _ rfl (some 48) rfl o1 rfl ⟨hBd1.trans (hba1.mono hzd1), ?_⟩
  simp only [Act.put, List.setIfInBounds_toArray, List.set_cons_zero, List.set_cons_succ]
  refine mix_append_int 17 _ rfl rfl w1.heap.size wd1.heap.size _ [o0] o1 rfl _ _ rfl (some 49) rfl rfl rfl (World.cell?_alloc_at _ _ _ _ rfl) (own_now hod1 hba1) (by simp only [World.size_alloc]; omega) (by simp) ?_
  intro vm1 wm1 hOmm1 hbm1 _
  have hBwm1 : Below w1.heap.size w1 wm1 := (hBd1.trans (hba1.mono hzd1)).trans hbm1
  have hOm1 : wm1.ownsRow w1.heap.size 3 1 vm1 [o0, o1].length ([o0, o1].map (Value.int .i64)) := hOmm1
  refine ⟨hBwm1, ?_⟩
  simp only [Act.put, List.setIfInBounds_toArray, List.set_cons_zero, List.set_cons_succ]
  refine mix_take 18 _ ?_ rfl rfl rfl (some 8) rfl (fun w' hw' => ?hv18) ?_
  case hv18 =>
    go_simp
    with_reducible rfl
  simp only [Act.put, List.setIfInBounds_toArray, List.set_cons_zero, List.set_cons_succ]
  refine mix_done ?_
  clear hOmm1 hbm1 hba1 hod1 hBd1 hOn1 hBn1 hzd1 hBwm0 hOm0
  go_wp2_with fail
  rw [rounds_succ]
  obtain ⟨e0, e1, e2⟩ := HC.out _ hBwm1
  have hB15 := mul_bd x0 y1 ⟨by omega, by omega⟩ ⟨by omega, by omega⟩
  have hB16 := mul_bd y0 x1 ⟨by omega, by omega⟩ ⟨by omega, by omega⟩
  go_wp2_with fail
  go_quiet (fail)
  obtain ⟨wn2, hwn2⟩ : ∃ wn2, wn2 = wm1.drewN nq := ⟨_, rfl⟩
  have hBn2 : Below w1.heap.size w1 wn2 := by rw [hwn2]; exact hBwm1.trans ((Same.refl _).drewN _ _)
  have hOn2 := own_now hOm1 (show Below wm1.heap.size wm1 wn2 by rw [hwn2]; exact (Same.refl _).drewN _ _)
  rw [← hwn2]
  clear hwn2 e0 e1 e2
  go_wp2_with fail
  have hwa : IntKind.i64.wrap (x0 * y1) = x0 * y1 := IntWalk.i64_in _ ⟨by omega, by omega⟩
  have hwb : IntKind.i64.wrap (y0 * x1) = y0 * x1 := IntWalk.i64_in _ ⟨by omega, by omega⟩
  have hwc : IntKind.i64.wrap (x0 * y1 - y0 * x1) = x0 * y1 - y0 * x1 := IntWalk.i64_in _ ⟨by omega, by omega⟩
  refine wp_region_mix (fun w' => Below w1.heap.size w1 w') [16, 17] [0, 1, 2, 3, 4, 5, 6, 7, 8, 9, 10, 11, 12, 13, 14, 15, 16, 17, 18] (by kernel_rfl) (by kernel_rfl) (fun _ _ d _ _ h => by cases d <;> exact h) (by kernel_rfl) rfl hBn2.drew ?_
  refine mix_take 0 _ ?_ rfl rfl rfl (some 32) rfl (fun w' hw' => ?hv0) ?_
  case hv0 =>
    go_simp
    with_reducible rfl
  simp only [Act.put, List.setIfInBounds_toArray, List.set_cons_zero, List.set_cons_succ]
  refine mix_take 1 _ ?_ rfl rfl rfl (some 33) rfl (fun w' hw' => ?hv1) ?_
  case hv1 =>
    go_simp
    with_reducible rfl
  simp only [Act.put, List.setIfInBounds_toArray, List.set_cons_zero, List.set_cons_succ]
  refine mix_take 2 _ ?_ rfl rfl rfl (some 34) rfl (fun w' hw' => ?hv2) ?_
  case hv2 =>
    go_simp
    with_reducible rfl
  simp only [Act.put, List.setIfInBounds_toArray, List.set_cons_zero, List.set_cons_succ]
  refine mix_take 3 _ ?_ rfl rfl rfl (some 35) rfl (fun w' hw' => ?hv3) ?_
  case hv3 =>
    have u0 := HN.out w' hw'
    obtain ⟨⟨t00, t01⟩, ⟨t10, t11⟩, t20, t21⟩ := u0
    go_simp
    with_reducible rfl
  simp only [Act.put, List.setIfInBounds_toArray, List.set_cons_zero, List.set_cons_succ]
  refine mix_take 4 _ ?_ rfl rfl rfl (some 36) rfl (fun w' hw' => ?hv4) ?_
  case hv4 =>
    go_simp
    with_reducible rfl
  simp only [Act.put, List.setIfInBounds_toArray, List.set_cons_zero, List.set_cons_succ]
  refine mix_take 5 _ ?_ rfl rfl rfl (some 37) rfl (fun w' hw' => ?hv5) ?_
  case hv5 =>
    go_simp
    with_reducible rfl
  simp only [Act.put, List.setIfInBounds_toArray, List.set_cons_zero, List.set_cons_succ]
  refine mix_take 6 _ ?_ rfl rfl rfl (some 38) rfl (fun w' hw' => ?hv6) ?_
  case hv6 =>
    have u0 := HN.out w' hw'
    obtain ⟨⟨t00, t01⟩, ⟨t10, t11⟩, t20, t21⟩ := u0
    go_simp
    with_reducible rfl
  simp only [Act.put, List.setIfInBounds_toArray, List.set_cons_zero, List.set_cons_succ]
  refine mix_take 7 _ ?_ rfl rfl rfl (some 39) rfl (fun w' hw' => ?hv7) ?_
  case hv7 =>
    go_simp
    with_reducible rfl
  simp only [Act.put, List.setIfInBounds_toArray, List.set_cons_zero, List.set_cons_succ]
  refine mix_take 8 _ ?_ rfl rfl rfl (some 40) rfl (fun w' hw' => ?hv8) ?_
  case hv8 =>
    go_simp
    with_reducible rfl
  simp only [Act.put, List.setIfInBounds_toArray, List.set_cons_zero, List.set_cons_succ]
  refine mix_take 9 _ ?_ rfl rfl rfl (some 41) rfl (fun w' hw' => ?hv9) ?_
  case hv9 =>
    go_simp
    with_reducible rfl
  simp only [Act.put, List.setIfInBounds_toArray, List.set_cons_zero, List.set_cons_succ]
  refine mix_take 10 _ ?_ rfl rfl rfl (some 42) rfl (fun w' hw' => ?hv10) ?_
  case hv10 =>
    have u0 := HN.out w' hw'
    obtain ⟨⟨t00, t01⟩, ⟨t10, t11⟩, t20, t21⟩ := u0
    go_simp
    with_reducible rfl
  simp only [Act.put, List.setIfInBounds_toArray, List.set_cons_zero, List.set_cons_succ]
  refine mix_take 11 _ ?_ rfl rfl rfl (some 43) rfl (fun w' hw' => ?hv11) ?_
  case hv11 =>
    go_simp
    with_reducible rfl
  simp only [Act.put, List.setIfInBounds_toArray, List.set_cons_zero, List.set_cons_succ]
  refine mix_take 12 _ ?_ rfl rfl rfl (some 44) rfl (fun w' hw' => ?hv12) ?_
  case hv12 =>
    go_simp
    with_reducible rfl
  simp only [Act.put, List.setIfInBounds_toArray, List.set_cons_zero, List.set_cons_succ]
  refine mix_take 13 _ ?_ rfl rfl rfl (some 45) rfl (fun w' hw' => ?hv13) ?_
  case hv13 =>
    have u0 := HN.out w' hw'
    obtain ⟨⟨t00, t01⟩, ⟨t10, t11⟩, t20, t21⟩ := u0
    go_simp
    with_reducible rfl
  simp only [Act.put, List.setIfInBounds_toArray, List.set_cons_zero, List.set_cons_succ]
  refine mix_take 14 _ ?_ rfl rfl rfl (some 46) rfl (fun w' hw' => ?hv14) ?_
  case hv14 =>
    go_simp
    with_reducible rfl
  simp only [Act.put, List.setIfInBounds_toArray, List.set_cons_zero, List.set_cons_succ]
  refine mix_take 15 _ ?_ rfl rfl rfl (some 47) rfl (fun w' hw' => ?hv15) ?_
  case hv15 =>
    go_simp
    with_reducible rfl
  simp only [Act.put, List.setIfInBounds_toArray, List.set_cons_zero, List.set_cons_succ]
  have hod2 := own_now hOn2 ((Below.refl wn2.heap.size wn2).drew)
  have hBd2 : Below w1.heap.size w1 wn2.drew := hBn2.drew
  have hzd2 := hBd2.size
  clear hwa hwb hwc hB15 hB16
  generalize x0 * y1 - y0 * x1 = o2 at *
  generalize wn2.drew = wd2 at hod2 hBd2 hzd2 ⊢
  have hba2 := balloc (Below.refl wd2.heap.size wd2) (.cells #[.int .i64 o2] 3)
  refine mix_build_int 16 _ rfl rfl rfl _ rfl (some 48) rfl o2 rfl ⟨hBd2.trans (hba2.mono hzd2), ?_⟩
  simp only [Act.put, List.setIfInBounds_toArray, List.set_cons_zero, List.set_cons_succ]
  refine mix_append_int 17 _ rfl rfl w1.heap.size wd2.heap.size _ [o0, o1] o2 rfl _ _ rfl (some 49) rfl rfl rfl (World.cell?_alloc_at _ _ _ _ rfl) (own_now hod2 hba2) (by simp only [World.size_alloc]; omega) (by simp) ?_
  intro vm2 wm2 hOmm2 hbm2 _
  have hBwm2 : Below w1.heap.size w1 wm2 := (hBd2.trans (hba2.mono hzd2)).trans hbm2
  have hOm2 : wm2.ownsRow w1.heap.size 3 1 vm2 [o0, o1, o2].length ([o0, o1, o2].map (Value.int .i64)) := hOmm2
  refine ⟨hBwm2, ?_⟩
  simp only [Act.put, List.setIfInBounds_toArray, List.set_cons_zero, List.set_cons_succ]
  refine mix_take 18 _ ?_ rfl rfl rfl (some 8) rfl (fun w' hw' => ?hv18) ?_
  case hv18 =>
    go_simp
    with_reducible rfl
  simp only [Act.put, List.setIfInBounds_toArray, List.set_cons_zero, List.set_cons_succ]
  refine mix_done ?_
  clear hOmm2 hbm2 hba2 hod2 hBd2 hOn2 hBn2 hzd2 hBwm1 hOm1
  go_wp2_with fail
  rw [rounds_succ]
  go_wp2_with fail
  go_ret
  exact ⟨_, rfl, by rw [HV.out]; exact ⟨_, own_base hOm2 hz1, own_lt hOm2⟩, bnext hb1 hBwm2⟩
end Go.Proofs.Ytelchpdlfedleaa
