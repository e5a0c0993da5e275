import Derived.LoopN
import Derived.BigRegion
import Derived.BigQuiet
import Derived.Test.YtelchpdlfedleaaS27
import Derived.Test.YtelchpdlfedleaaS26
import Derived.Test.YtelchpdlfedleaaZd
namespace Go.Proofs.Ytelchpdlfedleaa
open Go.RowKit
set_option maxRecDepth 4000
/-- The weights of a cell: its areas without their signs, without a common divisor. -/
def wtL (X Y Z : Nat) : List Int := [((X / Nat.gcd (Nat.gcd X Y) Z : Nat) : Int), ((Y / Nat.gcd (Nat.gcd X Y) Z : Nat) : Int), ((Z / Nat.gcd (Nat.gcd X Y) Z : Nat) : Int)]
def wtK (im : List (List Int)) (n k : Nat) : List Int := wtL (ar im n (cq n k 1) (cq n k 2)).natAbs (ar im n (cq n k 2) (cq n k 0)).natAbs (ar im n (cq n k 0) (cq n k 1)).natAbs
theorem gcd_turn (X Y Z : Nat) : Nat.gcd Z (Nat.gcd Y (Nat.gcd X 0)) = Nat.gcd (Nat.gcd X Y) Z := by
  rw [Nat.gcd_zero_right, Nat.gcd_comm Z, Nat.gcd_comm Y X]
theorem abs6 (d : Int) (h0 : -1000 ≤ d) (h1 : d ≤ 1000) (w : World) : Calls Try.prog 102 #[.int .i64 d] w fun e w' => e = .returned (.int .i64 (d.natAbs : Nat)) ∧ w = w' := (l1Abs_any d h0 h1 w).mono fun _ _ h => ⟨h.1, h.2.symm⟩
theorem i64_nat6 (q : Nat) (h : q ≤ 1000) : wrap64 (q : Int) = q := IntWalk.wrap64_in _ ⟨by omega, by omega⟩
theorem wrap_div (X G : Nat) (h : X ≤ 1000) : wrap64 ((X : Int) / (G : Int)) = ((X / G : Nat) : Int) := by
  rw [show ((X : Int) / (G : Int)) = ((X / G : Nat) : Int) from rfl]
  have := Nat.le_trans (Nat.div_le_self X G) h
  exact i64_nat6 _ this
set_option maxHeartbeats 6400000 in
theorem fxWeights_cell (n k : Nat) (h1 : 1 ≤ n) (h2 : n ≤ 5) (hk : k < (ci n).length) (im : List (List Int)) (hy : imB n im = true) (hg : agK im n k = true) (a : Option Addr) (cap cap2 b2 : Nat) (w : World) (h : RdSS w w.heap.size a im) (hrc : Rd w (some ⟨b2, 0, none⟩) b2 0 ((cl n k).map (fun (i : Nat) => (i : Int)))) (hb2 : b2 < w.heap.size) :
    Calls Try.prog 65 #[.int .i64 n, .slice a im.length cap, .slice (some ⟨b2, 0, none⟩) 3 cap2] w fun e w' => ∃ v, e = .returned v ∧ OI w' w.heap.size w'.heap.size v (wtK im n k) ∧ Below w.heap.size w w' := by
  have hp := cl_lt n k (by omega) hk 0 (by omega)
  have hq := cl_lt n k (by omega) hk 1 (by omega)
  have hr := cl_lt n k (by omega) hk 2 (by omega)
  change cq n k 0 < _ at hp
  change cq n k 1 < _ at hq
  change cq n k 2 < _ at hr
  have HA := Lib.hid (fxAreas_any n h1 h2 im hy (cq n k 0) (cq n k 1) (cq n k 2) hp hq hr a (some ⟨b2, 0, none⟩) cap cap2 b2 w h hrc hb2)
  have HV : Hid (arC im n (cq n k 0) (cq n k 1) (cq n k 2) = [ar im n (cq n k 1) (cq n k 2), ar im n (cq n k 2) (cq n k 0), ar im n (cq n k 0) (cq n k 1)]) := Lib.hid rfl
  rw [HV.out] at HA
  have bx := ar_bd hy h2 _ _ hq hr
  have bY := ar_bd hy h2 _ _ hr hp
  have bz := ar_bd hy h2 _ _ hp hq
  have hne : hasV (ar im n (cq n k 1) (cq n k 2)) (ar im n (cq n k 2) (cq n k 0)) (ar im n (cq n k 0) (cq n k 1)) = 1 ∨ hasV (ar im n (cq n k 1) (cq n k 2)) (ar im n (cq n k 2) (cq n k 0)) (ar im n (cq n k 0) (cq n k 1)) = -1 := show hasK im n k = 1 ∨ hasK im n k = -1 by simpa [agK] using hg
  have HW : Hid (wtK im n k = wtL (ar im n (cq n k 1) (cq n k 2)).natAbs (ar im n (cq n k 2) (cq n k 0)).natAbs (ar im n (cq n k 0) (cq n k 1)).natAbs) := Lib.hid rfl
  clear h hrc hy hg HV hp hq hr
  generalize ar im n (cq n k 1) (cq n k 2) = x at *
  generalize ar im n (cq n k 2) (cq n k 0) = y at *
  generalize ar im n (cq n k 0) (cq n k 1) = z at *
  have hx0 : x ≠ 0 := fun e => by
    subst e
    unfold hasV at hne
    simp at hne
    split at hne <;> (try split at hne) <;> omega
  have A0 := Lib.hid (fun w => abs6 x (by omega) (by omega) w)
  have A1 := Lib.hid (fun w => abs6 y (by omega) (by omega) w)
  have A2 := Lib.hid (fun w => abs6 z (by omega) (by omega) w)
  have hX : x.natAbs ≤ 1000 := by omega
  have hY : y.natAbs ≤ 1000 := by omega
  have hZ : z.natAbs ≤ 1000 := by omega
  have hX0 : 0 < x.natAbs := by omega
  have HL : Hid (∀ G, G = Nat.gcd (Nat.gcd x.natAbs y.natAbs) z.natAbs → wtK im n k = [((x.natAbs / G : Nat) : Int), ((y.natAbs / G : Nat) : Int), ((z.natAbs / G : Nat) : Int)]) := Lib.hid (fun G e => by rw [HW.out, wtL, e])
  clear hne hx0 bx bY bz HW
  generalize x.natAbs = X at *
  generalize y.natAbs = Y at *
  generalize z.natAbs = Z at *
  go_enter Try.func65, Try.ntmps65
  go_wp2_with fail
  refine HA.out.mono ?_
  rintro e w1 ⟨v, rfl, ho, hb1⟩
  obtain ⟨vc, vb, rfl, hrd, hvl, hvh⟩ := oi_three ho
  have c0 := (hrd.2 0 (by simp)).2
  have c1 := (hrd.2 1 (by simp)).2
  have c2 := (hrd.2 2 (by simp)).2
  have HC : Hid (∀ W, Below w1.heap.size w1 W → W.cell? ⟨vb, 0, none⟩ = some (.int .i64 x) ∧ W.cell? ⟨vb, 1, none⟩ = some (.int .i64 y) ∧ W.cell? ⟨vb, 2, none⟩ = some (.int .i64 z)) := Lib.hid (fun W hb => ⟨(hb.cell (p := ⟨vb, 0, none⟩) hvh).trans c0, (hb.cell (p := ⟨vb, 1, none⟩) hvh).trans c1, (hb.cell (p := ⟨vb, 2, none⟩) hvh).trans c2⟩)
  have hO0 : w1.ownsRow w1.heap.size 3 1 (.slice none 0 0) ([] : List Int).length (([] : List Int).map (Value.int .i64)) := World.ownsRow_nil _ _ _ _
  have hBm0 := Below.refl w1.heap.size w1
  have hz1 := hb1.size
  clear c0 c1 c2 hrd ho hvl hvh
  go_wp2_with fail
  refine wp_loop_rounds 4 ?_
  have hg0 : (0 : Nat) ≤ 1000 := by omega
  rw [rounds_succ]
  obtain ⟨e0, e1, e2⟩ := HC.out _ hBm0
  have hzm0 := hBm0.size
  go_wp2_with fail
  refine (A0.out _).mono ?_
  rintro e w' ⟨rfl, rfl⟩
  go_wp2_with (at_builtin; refine append_int w1.heap.size _ _ ([] : List Int) (X : Nat) rfl _ _ rfl rfl rfl hO0 hzm0 (by simp) ?_; intro v1 wn1 hOnn1 hbn1)
  have hBn1 : Below w1.heap.size w1 wn1 := hBm0.trans hbn1
  have hOn1 : wn1.ownsRow w1.heap.size 3 1 v1 [(X : Int)].length ([(X : Int)].map (Value.int .i64)) := hOnn1
  refine (A0.out _).mono ?_
  rintro e w' ⟨rfl, rfl⟩
  go_wp2_with fail
  refine (fxGcd_any X (0 : Nat) (by omega) hg0 _).mono ?_
  rintro e wm1 ⟨rfl, hsm1⟩
  have hBm1 := hBn1.trans (hsm1 _)
  have hOm1 := own_now hOn1 (hsm1 _)
  have hg1 : Nat.gcd X (0 : Nat) ≤ 1000 := gcd_le6 _ _ (by omega) hg0
  clear hOnn1 hbn1 hBn1 hOn1 hsm1 e0 e1 e2 hBm0 hO0
  obtain ⟨g1, hge1⟩ : ∃ g, g = Nat.gcd X 0 := ⟨_, rfl⟩
  rw [← hge1] at hg1 ⊢
  have HGE1 := Lib.hid hge1
  clear hge1
  go_wp2_with fail
  rw [rounds_succ]
  obtain ⟨e0, e1, e2⟩ := HC.out _ hBm1
  have hzm1 := hBm1.size
  go_wp2_with fail
  refine (A1.out _).mono ?_
  rintro e w' ⟨rfl, rfl⟩
  go_wp2_with (at_builtin; refine append_int w1.heap.size _ _ [(X : Int)] (Y : Nat) rfl _ _ rfl rfl rfl hOm1 hzm1 (by simp) ?_; intro v2 wn2 hOnn2 hbn2)
  have hBn2 : Below w1.heap.size w1 wn2 := hBm1.trans hbn2
  have hOn2 : wn2.ownsRow w1.heap.size 3 1 v2 [(X : Int), (Y : Int)].length ([(X : Int), (Y : Int)].map (Value.int .i64)) := hOnn2
  refine (A1.out _).mono ?_
  rintro e w' ⟨rfl, rfl⟩
  go_wp2_with fail
  refine (fxGcd_any Y g1 (by omega) hg1 _).mono ?_
  rintro e wm2 ⟨rfl, hsm2⟩
  have hBm2 := hBn2.trans (hsm2 _)
  have hOm2 := own_now hOn2 (hsm2 _)
  have hg2 : Nat.gcd Y g1 ≤ 1000 := gcd_le6 _ _ (by omega) hg1
  clear hOnn2 hbn2 hBn2 hOn2 hsm2 e0 e1 e2 hBm1 hOm1
  obtain ⟨g2, hge2⟩ : ∃ g, g = Nat.gcd Y g1 := ⟨_, rfl⟩
  rw [← hge2] at hg2 ⊢
  have HGE2 := Lib.hid hge2
  clear hge2
  go_wp2_with fail
  rw [rounds_succ]
  obtain ⟨e0, e1, e2⟩ := HC.out _ hBm2
  have hzm2 := hBm2.size
  go_wp2_with fail
  refine (A2.out _).mono ?_
  rintro e w' ⟨rfl, rfl⟩
  go_wp2_with (at_builtin; refine append_int w1.heap.size _ _ [(X : Int), (Y : Int)] (Z : Nat) rfl _ _ rfl rfl rfl hOm2 hzm2 (by simp) ?_; intro v3 wn3 hOnn3 hbn3)
  have hBn3 : Below w1.heap.size w1 wn3 := hBm2.trans hbn3
  have hOn3 : wn3.ownsRow w1.heap.size 3 1 v3 [(X : Int), (Y : Int), (Z : Int)].length ([(X : Int), (Y : Int), (Z : Int)].map (Value.int .i64)) := hOnn3
  refine (A2.out _).mono ?_
  rintro e w' ⟨rfl, rfl⟩
  go_wp2_with fail
  refine (fxGcd_any Z g2 (by omega) hg2 _).mono ?_
  rintro e wm3 ⟨rfl, hsm3⟩
  have hBm3 := hBn3.trans (hsm3 _)
  have hOm3 := own_now hOn3 (hsm3 _)
  have hg3 : Nat.gcd Z g2 ≤ 1000 := gcd_le6 _ _ (by omega) hg2
  clear hOnn3 hbn3 hBn3 hOn3 hsm3 e0 e1 e2 hBm2 hOm2
  obtain ⟨g3, hge3⟩ : ∃ g, g = Nat.gcd Z g2 := ⟨_, rfl⟩
  rw [← hge3] at hg3 ⊢
  have HGE3 := Lib.hid hge3
  clear hge3
  go_wp2_with fail
  have hGE : g3 = Nat.gcd (Nat.gcd X Y) Z := by rw [HGE3.out, HGE2.out, HGE1.out, gcd_turn]
  have hG0 : 0 < g3 := by rw [hGE]; exact Nat.gcd_pos_of_pos_left _ (Nat.gcd_pos_of_pos_left _ hX0)
  have HR := Lib.hid (HL.out g3 hGE)
  clear hGE hg1 hg2 HL HC A0 A1 A2 hX0
  have hGn : ¬ g3 = 0 := by omega
  have hgi : (0 : Int) < (g3 : Int) := by omega
  have hwX := wrap_div X g3 hX
  have hwY := wrap_div Y g3 hY
  have hwZ := wrap_div Z g3 hZ
  generalize X / g3 = qX at *
  generalize Y / g3 = qY at *
  generalize Z / g3 = qZ at *
  obtain ⟨-, va, vcc, vbb, rfl, hvx, hvr⟩ := own_shape hOm3
  have hva := (hvr.2 0 (by simp)).1
  subst hva
  clear hvx hvr
  have hS1 := (hOm3.stored 0 (.int .i64 (qX : Nat))).1
  have hS2 := (hS1.stored 1 (.int .i64 (qY : Nat))).1
  have hS3 := (hS2.stored 2 (.int .i64 (qZ : Nat))).1
  have hvb := (hOm3.lt vbb rfl).1
  have HS : Hid ((((wm3.setCell ⟨vbb, 0, none⟩ (.int .i64 (qX : Nat))).setCell ⟨vbb, 1, none⟩ (.int .i64 (qY : Nat))).setCell ⟨vbb, 2, none⟩ (.int .i64 (qZ : Nat))).ownsRow w1.heap.size 3 1 (.slice (some ⟨vbb, 0, none⟩) 3 vcc) [(qX : Int), (qY : Int), (qZ : Int)].length ([(qX : Int), (qY : Int), (qZ : Int)].map (Value.int .i64))) := Lib.hid hS3
  have d0 : wm3.cell? ⟨vbb, 0, none⟩ = some (.int .i64 (X : Nat)) := (hOm3.cellAt 0 (by simp)).trans rfl
  have d1 : wm3.cell? ⟨vbb, 1, none⟩ = some (.int .i64 (Y : Nat)) := (hOm3.cellAt 1 (by simp)).trans rfl
  have d2 : wm3.cell? ⟨vbb, 2, none⟩ = some (.int .i64 (Z : Nat)) := (hOm3.cellAt 2 (by simp)).trans rfl
  have f0 := hOm3.frozenAt 0
  have f1 := hOm3.frozenAt 1
  have f2 := hOm3.frozenAt 2
  have hBs := ((hBm3.setCell (p := ⟨vbb, 0, none⟩) hvb (.int .i64 (qX : Nat))).setCell (p := ⟨vbb, 1, none⟩) hvb (.int .i64 (qY : Nat))).setCell (p := ⟨vbb, 2, none⟩) hvb (.int .i64 (qZ : Nat))
  clear hOm3 hS1 hS2 hS3 hBm3
  rw [rounds_succ]
  go_wp2_with fail
  go_rounds 4
  go_ret
  exact ⟨_, rfl, by rw [HR.out]; exact ⟨_, own_base HS.out hz1, own_lt HS.out⟩, bnext hb1 hBs⟩
end Go.Proofs.Ytelchpdlfedleaa
