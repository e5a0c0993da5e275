import Derived.LoopN
import Derived.BigRegion
import Derived.BigQuiet
import Derived.RegionTactic
import Derived.Test.YtlkgmnmnlfaopaaS45
import Derived.Test.YtlkgmnmnlfaopaaS42i
import Derived.Test.YtlkgmnmnlfaopaaS34
import Derived.Test.YtlkgmnmnlfaopaaZk
namespace Go.Proofs.Ytlkgmnmnlfaopaa
open Go.RowKit
set_option maxRecDepth 4000
def OutTurnedImages (w : World) (r0 : List (List Int)) (r1 : Bool) (e : Ending) (w' : World) : Prop := ∃ v0, e = .returned (.tuple #[v0, .bool r1]) ∧ OSS w' w.heap.size w'.heap.size v0 r0 ∧ Below w.heap.size w w'
set_option maxHeartbeats 3200000 in
theorem lawOf_TurnedImages (n : Int) (im : List (List Int)) (a_im : Option Addr) (c_im : Nat) (w : World) (h_im : RdSS w w.heap.size a_im im) (r0 : List (List Int)) (r1 : Bool) (hL0 : r0.length ≤ 100000) (hR0 : ∀ k, (r0.getD k []).length ≤ 1000)
    (hs : ∀ (a_im' : Option Addr) (c_im' : Nat) (w' : World), SmallSS im → RdSS w' w'.heap.size a_im' im → Calls Try.prog 51 #[.int .i64 n, .slice a_im' im.length c_im'] w' (OutTurnedImages w' r0 r1))
    (hi : ∀ (a_im' : Option Addr) (c_im' : Nat) (w' : World), SmallSS im → RdSS w' w'.heap.size a_im' im → Calls Try.prog 52 #[.int .i64 n, .slice a_im' im.length c_im'] w' (OutTurnedImages w' r0 r1)) :
    Calls Try.prog 14 #[.int .i64 n, .slice a_im im.length c_im] w fun e w' => e = .returned (.bool true) ∧ Below w.heap.size w w' := by
  have HS := Lib.hid hs
  have HI := Lib.hid hi
  clear hs hi
  have hne1 : (r1 != r1) = false := by simp
  obtain ⟨ls0, hls0, hsm0, hln0⟩ : ∃ ls : List Nat, Lens ls r0 ∧ (∀ i, ls.getD i 0 ≤ 1000) ∧ ls.length ≤ 100000 := ⟨r0.map List.length, lens_self r0, fun i => by rw [← (lens_self r0).2 i]; exact hR0 i, by simpa using hL0⟩
  have HLS0 := Lib.hid hls0
  have HSM0 := Lib.hid (show ∀ j, ls0.getD j 0 ≤ 1048576 from fun j => Nat.le_trans (hsm0 j) (by omega))
  have hto0 : offs ls0 ls0.length ≤ 100000000 := Nat.le_trans (offs_le ls0 hsm0 ls0.length) (by omega)
  clear hls0 hsm0 hR0
  have hB0 : Below w.heap.size w w := Below.refl _ _
  go_enter Try.func14, Try.ntmps14
  go_wp2_with fail
  refine (szIntSS_any im a_im c_im _ 1048576 (by omega) (by omega) w h_im).mono ?_
  rintro e w' ⟨l1, rfl, rfl, hl⟩
  rcases hl with hl | ⟨hl0_0, hl1_0, hsz_im⟩
  · go_wp2_with fail
    go_ret
    exact ⟨rfl, Below.refl _ _⟩
  go_wp2_with fail
  refine (toIntSS_any im a_im c_im _ _ h_im (by omega) hsz_im).mono ?_
  rintro e w1 ⟨v_imp, rfl, o_imp, hb⟩
  have hc := chg_below hb
  clear hb
  have z1 := hc.size
  replace h_im := rdss_chg h_im hc (by omega) (by omega)
  replace hB0 := below_chg hB0 hc (by omega) (by omega)
  clear hc
  obtain ⟨a_imp, c_imp, rfl, rd_imp⟩ := oss_shape o_imp
  go_wp2_with fail
  refine (HS.out a_imp c_imp _ hsz_im (rdss_mono rd_imp (by omega))).mono ?_
  rintro e w2 ⟨vs0, rfl, os0, hb⟩
  have hc := chg_below hb
  clear hb
  clear rd_imp
  have z2 := hc.size
  replace h_im := rdss_chg h_im hc (by omega) (by omega)
  replace o_imp := oss_keep o_imp hc (by omega) (by omega)
  replace hB0 := below_chg hB0 hc (by omega) (by omega)
  clear hc
  obtain ⟨as0, cs0, rfl, -⟩ := oss_shape os0
  go_wp2_with fail
  clear o_imp
  refine (toIntSS_any im a_im c_im _ _ h_im (by omega) hsz_im).mono ?_
  rintro e w3 ⟨v_imx, rfl, o_imx, hb⟩
  have hc := chg_below hb
  clear hb
  have z3 := hc.size
  replace h_im := rdss_chg h_im hc (by omega) (by omega)
  replace os0 := oss_keep os0 hc (by omega) (by omega)
  replace hB0 := below_chg hB0 hc (by omega) (by omega)
  clear hc
  obtain ⟨a_imx, c_imx, rfl, rd_imx⟩ := oss_shape o_imx
  go_wp2_with fail
  refine (HI.out a_imx c_imx _ hsz_im (rdss_mono rd_imx (by omega))).mono ?_
  rintro e w4 ⟨vg0, rfl, og0, hb⟩
  have hc := chg_below hb
  clear hb
  clear rd_imx
  have z4 := hc.size
  replace h_im := rdss_chg h_im hc (by omega) (by omega)
  replace os0 := oss_keep os0 hc (by omega) (by omega)
  replace o_imx := oss_keep o_imx hc (by omega) (by omega)
  replace hB0 := below_chg hB0 hc (by omega) (by omega)
  clear hc
  obtain ⟨ag0, cg0, rfl, -⟩ := oss_shape og0
  go_wp2_with fail
  refine (eqIntSS_rd r0 ag0 as0 _ _ cg0 cs0 _ (oss_rds og0) (oss_rds os0)).mono ?_
  rintro e w5 ⟨rfl, hs⟩
  have hc := chg_same hs
  clear hs
  have z5 := hc.size
  replace h_im := rdss_chg h_im hc (by omega) (by omega)
  replace os0 := oss_keep os0 hc (by omega) (by omega)
  replace o_imx := oss_keep o_imx hc (by omega) (by omega)
  replace og0 := oss_keep og0 hc (by omega) (by omega)
  replace hB0 := below_chg hB0 hc (by omega) (by omega)
  clear hc
  go_wp2_with fail
  refine (toIntSS_any im a_im c_im _ _ h_im (by omega) hsz_im).mono ?_
  rintro e w6 ⟨v_imy, rfl, o_imy, hb⟩
  have hc := chg_below hb
  clear hb
  have z6 := hc.size
  replace h_im := rdss_chg h_im hc (by omega) (by omega)
  replace os0 := oss_keep os0 hc (by omega) (by omega)
  replace o_imx := oss_keep o_imx hc (by omega) (by omega)
  replace og0 := oss_keep og0 hc (by omega) (by omega)
  replace hB0 := below_chg hB0 hc (by omega) (by omega)
  clear hc
  obtain ⟨a_imy, c_imy, rfl, -⟩ := oss_shape o_imy
  go_wp2_with fail
  refine (eqIntSS_rd im a_imx a_imy _ _ c_imx c_imy _ (oss_rds o_imx) (oss_rds o_imy)).mono ?_
  rintro e w7 ⟨rfl, hs⟩
  have hc := chg_same hs
  clear hs
  have z7 := hc.size
  replace h_im := rdss_chg h_im hc (by omega) (by omega)
  replace os0 := oss_keep os0 hc (by omega) (by omega)
  replace o_imx := oss_keep o_imx hc (by omega) (by omega)
  replace og0 := oss_keep og0 hc (by omega) (by omega)
  replace o_imy := oss_keep o_imy hc (by omega) (by omega)
  replace hB0 := below_chg hB0 hc (by omega) (by omega)
  clear hc
  go_wp2_with fail
  clear o_imy
  obtain ⟨lx0, hlx0, hsx0, hnx0⟩ := small_lens hsz_im
  refine (markIntSS_chg lx0 im hlx0 hsx0 hnx0 a_imx _ _ c_imx _ (by omega) (by omega) _ o_imx).mono ?_
  rintro e w8 ⟨rfl, -, hc⟩
  have htx0 : offs lx0 lx0.length ≤ 1099511627776 := Nat.le_trans (offs_big lx0 hsx0 lx0.length) (by omega)
  clear hlx0 hsx0
  generalize offs lx0 lx0.length = tx0 at htx0 ⊢
  clear o_imx
  have z8 := hc.size
  replace h_im := rdss_chg h_im hc (by omega) (by omega)
  replace os0 := oss_keep os0 hc (by omega) (by omega)
  replace og0 := oss_keep og0 hc (by omega) (by omega)
  replace hB0 := below_chg hB0 hc (by omega) (by omega)
  clear hc
  go_wp2_with fail
  refine (eqIntSS_rd r0 ag0 as0 _ _ cg0 cs0 _ (oss_rds og0) (oss_rds os0)).mono ?_
  rintro e w9 ⟨rfl, hs⟩
  have hc := chg_same hs
  clear hs
  have z9 := hc.size
  replace h_im := rdss_chg h_im hc (by omega) (by omega)
  replace os0 := oss_keep os0 hc (by omega) (by omega)
  replace og0 := oss_keep og0 hc (by omega) (by omega)
  replace hB0 := below_chg hB0 hc (by omega) (by omega)
  clear hc
  go_wp2_with fail
  refine (markIntSS_chg ls0 r0 HLS0.out HSM0.out (by omega) ag0 _ _ cg0 1 (by omega) (by omega) _ og0).mono ?_
  rintro e w10 ⟨rfl, ⟨cm0, hmk0, om0⟩, hc⟩
  have HMK0 := Lib.hid hmk0
  clear hmk0
  clear og0
  have z10 := hc.size
  replace h_im := rdss_chg h_im hc (by omega) (by omega)
  replace os0 := oss_keep os0 hc (by omega) (by omega)
  replace hB0 := below_chg hB0 hc (by omega) (by omega)
  clear hc
  generalize hto0' : offs ls0 ls0.length = tot0 at hto0
  go_wp2_with fail
  refine (heldIntSS_rd ls0 cm0 1 (by omega) (by omega) HMK0.out HSM0.out (by omega) ag0 _ _ cg0 (by rw [HMK0.out.1.1, HLS0.out.1]) _ (oss_rds2 om0)).mono ?_
  rintro e w' ⟨rfl, rfl⟩
  rw [hto0']
  go_wp2_with fail
  refine (toIntSS_any im a_im c_im _ _ h_im (by omega) hsz_im).mono ?_
  rintro e w11 ⟨v_imz, rfl, o_imz, hb⟩
  have hc := chg_below hb
  clear hb
  have z11 := hc.size
  replace h_im := rdss_chg h_im hc (by omega) (by omega)
  replace os0 := oss_keep os0 hc (by omega) (by omega)
  replace om0 := oss_keep om0 hc (by omega) (by omega)
  replace hB0 := below_chg hB0 hc (by omega) (by omega)
  clear hc
  obtain ⟨a_imz, c_imz, rfl, rd_imz⟩ := oss_shape o_imz
  go_wp2_with fail
  refine (HI.out a_imz c_imz _ hsz_im (rdss_mono rd_imz (by omega))).mono ?_
  rintro e w12 ⟨vh0, rfl, oh0, hb⟩
  have hc := chg_below hb
  clear hb
  clear rd_imz
  have z12 := hc.size
  replace h_im := rdss_chg h_im hc (by omega) (by omega)
  replace os0 := oss_keep os0 hc (by omega) (by omega)
  replace om0 := oss_keep om0 hc (by omega) (by omega)
  replace o_imz := oss_keep o_imz hc (by omega) (by omega)
  replace hB0 := below_chg hB0 hc (by omega) (by omega)
  clear hc
  obtain ⟨ah0, ch0, rfl, -⟩ := oss_shape oh0
  go_wp2_with fail
  clear o_imz
  refine (eqIntSS_rd r0 ah0 as0 _ _ ch0 cs0 _ (oss_rds oh0) (oss_rds os0)).mono ?_
  rintro e w13 ⟨rfl, hs⟩
  have hc := chg_same hs
  clear hs
  have z13 := hc.size
  replace h_im := rdss_chg h_im hc (by omega) (by omega)
  replace os0 := oss_keep os0 hc (by omega) (by omega)
  replace om0 := oss_keep om0 hc (by omega) (by omega)
  replace oh0 := oss_keep oh0 hc (by omega) (by omega)
  replace hB0 := below_chg hB0 hc (by omega) (by omega)
  clear hc
  go_wp2_with fail
  refine (heldIntSS_rd ls0 cm0 1 (by omega) (by omega) HMK0.out HSM0.out (by omega) ag0 _ _ cg0 (by rw [HMK0.out.1.1, HLS0.out.1]) _ (oss_rds2 om0)).mono ?_
  rintro e w' ⟨rfl, rfl⟩
  rw [hto0']
  go_wp2_with fail
  go_ret
  exact ⟨rfl, hB0⟩
/-- The number of the turned point. -/
def tqN (n i : Nat) : Nat := Pr.T ((n : Int) - pq n i 1).toNat + (pq n i 0).toNat
theorem tq_lt : ∀ n, n < 6 → ∀ i, i < 21 → i < Pr.cnt n → tqN n i < Pr.cnt n := by decide +kernel
def tuF (im : List (List Int)) (n : Nat) (i k : Nat) : Int := iq im (tqN n i) (if k = 0 then 2 else if k = 1 then 0 else 1)
theorem tu_bd {n : Nat} {im : List (List Int)} (h : imB n im = true) (h2 : n ≤ 5) (i : Nat) (hi : i < Pr.cnt n) : tqN n i < im.length := by
  rw [(imB_at h).1]
  exact tq_lt n (by omega) i (by have := cnt21 n h2; omega) hi
section
variable {ops : Array Oper} {S : World → Prop} {Q : Exit → Act → World → Prop}
theorem run_build_three (x y z : Int) (w : World) : (Instr.buildSlice 31 3 #[(0, .int .i64 x), (1, .int .i64 y), (2, .int .i64 z)]).run Try.prog w = .ok (.slice (some ⟨w.heap.size, 0, none⟩) 3 3) (w.alloc (.cells #[.int .i64 x, .int .i64 y, .int .i64 z] 3)) := by kernel_rfl
theorem mix_build_three {sole rest : List Nat} {a : Act} {w : World} (i : Nat) (o : Oper) (hi : sole.contains i = true) (ho : ops[i]? = some o) (hgd : o.guard = none) (x y z : Operand) (hop : o.op = .buildSlice 31 3 #[(0, x), (1, y), (2, z)]) (d : Option Tmp) (hd : o.dst = d)
    (u v t : Int) (hx : a.eval x = .int .i64 u) (hy : a.eval y = .int .i64 v) (hz : a.eval z = .int .i64 t)
    (h : S (w.alloc (.cells #[.int .i64 u, .int .i64 v, .int .i64 t] 3)) ∧ wpMix Try.prog ops S Q sole rest (a.put d (.slice (some ⟨w.heap.size, 0, none⟩) 3 3)) (w.alloc (.cells #[.int .i64 u, .int .i64 v, .int .i64 t] 3))) : wpMix Try.prog ops S Q sole (i :: rest) a w := by
  subst hd
  refine mix_sole i o hi ho (fun K' hK => ?_)
  rw [if_pos (by simp [Region.wanted, hgd])]
  unfold Oper.wp
  simp [execOp, hop, hx, hy, hz, run_build_three, Result.andThen]
  exact hK _ _ h
end
theorem ossnil (w : World) (lo hi : Nat) : OSS w lo hi (.slice none 0 0) [] := ⟨[], World.ownsRow_nil _ _ _ _, fun k hk => by simp at hk, fun i j _ hj => by simp at hj, fun k hk => by simp [Value.ownBlock] at hk, fun i hi => by simp at hi⟩
theorem osslow {w : World} {lo lo' hi : Nat} {v : Value} {c : List (List Int)} (h : OSS w lo hi v c) (hl : lo' ≤ lo) : OSS w lo' hi v c := by
  obtain ⟨vs, p1, p2, p3, p4, p5⟩ := h
  exact ⟨vs, own_base p1 hl, fun k hk => own_base (p2 k hk) hl, p3, p4, p5⟩
theorem ossof {w : World} {base : Nat} {v : Value} {cs : List (List Int)} (h : CellsV w base v cs) : OSS w base w.heap.size v cs := by
  obtain ⟨vs, h1, h2, h3⟩ := h
  exact ⟨vs, h1, h2, h3, own_lt h1, fun i hi => own_lt (h2 i hi)⟩
set_option maxHeartbeats 3200000 in
theorem specTurnedImages (n : Int) (im : List (List Int)) (a : Option Addr) (cap : Nat) (w : World) (h : RdSS w w.heap.size a im) :
    Calls Try.prog 51 #[.int .i64 n, .slice a im.length cap] w (OutTurnedImages w (if imgB n im then imF (Pr.cnt n.toNat) (tuF im n.toNat) else []) (imgB n im)) := by
  have HM := Lib.hid (fxGood_any n im a cap w.heap.size w h)
  cases hg : imgB n im
  · rw [hg] at HM
    clear h hg
    go_enter Try.func51, Try.ntmps51
    go_wp2_with fail
    refine HM.out.mono ?_
    rintro e w1 ⟨rfl, hs⟩
    go_wp2_with fail
    go_returns
    exact ⟨_, rfl, ossnil _ _ _, hs _⟩
  · rw [hg] at HM
    rw [if_pos rfl]
    obtain ⟨n, rfl, h1, h2, hy⟩ := imgB_yes hg
    rw [Int.toNat_natCast]
    have hlen := (imB_at hy).1
    have hc21 := cnt21 n h2
    have HROW := Lib.hid (fun j hj => iq_row hy j hj)
    have HTQ := Lib.hid (fun i hi => tu_bd hy h2 i hi)
    have HPB := Lib.hid (fun i (hi : i < Pr.cnt n) k (hk : k < 3) => pq_bd n i k (by omega) hi hk)
    have HPS := Lib.hid (fun i => pq_sum n i)
    have HIS := Lib.hid (fun k => imF_succ k (tuF im n))
    have HIL := Lib.hid (fun k => imF_len k (tuF im n))
    have HTE : Hid (∀ i, tuF im n i 0 = iq im (tqN n i) 2 ∧ tuF im n i 1 = iq im (tqN n i) 0 ∧ tuF im n i 2 = iq im (tqN n i) 1) := Lib.hid (fun _ => ⟨rfl, rfl, rfl⟩)
    have HTN : Hid (∀ i, tqN n i = Pr.T ((n : Int) - pq n i 1).toNat + (pq n i 0).toNat) := Lib.hid (fun _ => rfl)
    have HR := Lib.hid h
    have HLEN := Lib.hid hlen
    have hl21 : im.length ≤ 21 := by omega
    clear h hg hy hlen
    go_enter Try.func51, Try.ntmps51
    go_wp2_with fail
    refine HM.out.mono ?_
    rintro e w1 ⟨rfl, hs⟩
    have hB1 := hs w.heap.size
    clear hs
    have hz1 := hB1.size
    go_wp2_with fail
    go_loopw [6, 16] (fun v6 v16 wr => ∃ i : Nat, i ≤ im.length ∧ v16 = .int .i64 i ∧ CellsV wr w1.heap.size v6 (imF i (tuF im n)) ∧ Below w1.heap.size w1 wr) (fun _ v16 _ => im.length - (intOf v16).toNat)
    case atStart => exact ⟨0, Nat.zero_le _, rfl, cells_nil _ _, Below.refl _ _⟩
    case round =>
      obtain ⟨i, hi, rfl, hc, hb⟩ := hrel
      obtain ⟨wq, rfl⟩ : ∃ wq : World, wq = wr := ⟨_, rfl⟩
      obtain ⟨va, vm, vc, rfl⟩ := cells_shape hc
      have hzq := hb.size
      by_cases hlt : i < im.length
      · have hic : i < Pr.cnt n := by rw [← HLEN.out]; exact hlt
        have hii : (i : Int) < (im.length : Int) := by omega
        have i45 : i < 45 := by omega
        have hJ := HTQ.out i hic
        obtain ⟨x0, x1⟩ := HPB.out i hic 0 (by omega)
        obtain ⟨y0, y1⟩ := HPB.out i hic 1 (by omega)
        obtain ⟨z0, z1⟩ := HPB.out i hic 2 (by omega)
        have hsum := HPS.out i
        have HTi := Lib.hid (HTN.out i)
        have HEi := Lib.hid (HTE.out i)
        have HSi := Lib.hid (HIS.out i)
        have hli := HIL.out i
        have hli2 : (imF i (tuF im n)).length ≤ 21 := by omega
        have HRJ := Lib.hid (HROW.out (tqN n i) (by rw [← HLEN.out]; exact hJ))
        have HMA := Lib.hid (fun w' => meAt_any n i h1 (by omega) i45 w')
        have HCQ := Lib.hid hc
        have HBQ := Lib.hid (hB1.trans (hb.mono hz1))
        have HBQ1 := Lib.hid hb
        clear hli hc hb
        obtain ⟨J, hJe⟩ : ∃ J, J = tqN n i := ⟨_, rfl⟩
        rw [← hJe] at hJ HTi HEi HRJ
        have HJI : Hid (((Pr.T ((n : Int) - pq n i 1).toNat : Nat) : Int) + pq n i 0 = (J : Int)) := Lib.hid (by rw [HTi.out]; omega)
        have HPT : Hid (((n : Int) - (Pr.R i : Nat)) = pq n i 0 ∧ ((Pr.R i : Int) - (Pr.C i : Nat)) = pq n i 1 ∧ ((Pr.C i : Nat) : Int) = pq n i 2) := Lib.hid ⟨rfl, rfl, rfl⟩
        clear HTi hJe
        generalize pq n i 0 = p0 at *
        generalize pq n i 1 = p1 at *
        generalize pq n i 2 = p2 at *
        generalize tuF im n i 0 = t0 at *
        generalize tuF im n i 1 = t1 at *
        generalize tuF im n i 2 = t2 at *
        obtain ⟨-, b, off, hx⟩ := rdss_later HR.out HBQ.out
        obtain ⟨hae, hbB, ra, rc, k0, hrk⟩ := hx J hJ
        subst hae
        rw [HRJ.out] at k0 hrk
        obtain ⟨rb, ro, hrd, hrb⟩ := hrk
        obtain ⟨rfl, j0⟩ := hrd.2 0 (by simp)
        have j1 := (hrd.2 1 (by simp)).2
        have j2 := (hrd.2 2 (by simp)).2
        have hrbl : rb < w.heap.size := by
          rcases hrb with h0 | h0
          · simp at h0
          · exact h0
        rw [Nat.add_zero] at j0
        have j0 : wq.cell? ⟨rb, ro, none⟩ = some (.int .i64 (iq im J 0)) := j0
        have j1 : wq.cell? ⟨rb, ro + 1, none⟩ = some (.int .i64 (iq im J 1)) := j1
        have j2 : wq.cell? ⟨rb, ro + 2, none⟩ = some (.int .i64 (iq im J 2)) := j2
        rw [← HEi.out.1] at j2
        rw [← HEi.out.2.1] at j0
        rw [← HEi.out.2.2] at j1
        have hJi : (J : Int) < (im.length : Int) := by omega
        have hwz : w.heap.size ≤ wq.heap.size := by omega
        have k0 : wq.cell? ⟨b, off + J, none⟩ = some (.slice (some ⟨rb, ro, none⟩) 3 rc) := k0
        clear hx hrd hrb HRJ
        go_wp2_with fail
        refine (HMA.out _).mono ?_
        rintro e w3 ⟨rfl, hw3⟩
        rw [HPT.out.1, HPT.out.2.1, HPT.out.2.2] at hw3
        have hB3 : Below wq.heap.size wq w3 := by rw [hw3]; exact balloc (Below.refl _ _) _
        have g3 : w3.heap[wq.heap.size]? = some (.cells #[.int .i64 p0, .int .i64 p1, .int .i64 p2] 3 (0, 0)) := by rw [hw3]; exact heap_alloc_new wq _
        have HK := Lib.hid (fun w' (hb : Below w3.heap.size w3 w') => (⟨blk_cell (hq_later g3 hb) 0 _ rfl, blk_cell (hq_later g3 hb) 1 _ rfl, blk_cell (hq_later g3 hb) 2 _ rfl, ((bnext hB3 hb).cell (p := ⟨b, off + J, none⟩) (by show b < _; omega)).trans k0⟩ :
          w'.cell? ⟨wq.heap.size, 0, none⟩ = some (.int .i64 p0) ∧ w'.cell? ⟨wq.heap.size, 1, none⟩ = some (.int .i64 p1) ∧ w'.cell? ⟨wq.heap.size, 2, none⟩ = some (.int .i64 p2) ∧ w'.cell? ⟨b, off + J, none⟩ = some (.slice (some ⟨rb, ro, none⟩) 3 rc)))
        have hz3 := hB3.size
        clear hw3 g3
        go_wp2_with fail
        refine wp_region_mix (fun w' => Below w3.heap.size w3 w') [11, 12] [0, 1, 2, 3, 4, 5, 6, 7, 8, 9, 10, 11, 12, 13, 14, 15] (by kernel_rfl) (by kernel_rfl) (fun _ _ d _ _ h => by cases d <;> exact h) (by kernel_rfl) rfl ((Same.refl w3).drew _) ?_
        have hbd : Below w3.heap.size w3 w3.drew := (Same.refl w3).drew _
        refine mix_take 0 _ ?_ rfl rfl rfl (some 22) rfl (fun w' hw' => ?hv0) ?_
        case hv0 =>
          go_simp
          with_reducible rfl
        simp only [Act.put, List.setIfInBounds_toArray, List.set_cons_zero, List.set_cons_succ]
        refine mix_take 1 _ ?_ rfl rfl rfl (some 23) rfl (fun w' hw' => ?hv1) ?_
        case hv1 =>
          go_simp
          with_reducible rfl
        simp only [Act.put, List.setIfInBounds_toArray, List.set_cons_zero, List.set_cons_succ]
        refine mix_take 2 _ ?_ rfl rfl rfl (some 24) rfl (fun w' hw' => ?hv2) ?_
        case hv2 =>
          go_simp
          with_reducible rfl
        simp only [Act.put, List.setIfInBounds_toArray, List.set_cons_zero, List.set_cons_succ]
        refine mix_take 3 _ ?_ rfl rfl rfl (some 25) rfl (fun w' hw' => ?hv3) ?_
        case hv3 =>
          go_simp
          with_reducible rfl
        simp only [Act.put, List.setIfInBounds_toArray, List.set_cons_zero, List.set_cons_succ]
        refine mix_take 4 _ ?_ rfl rfl rfl (some 26) rfl (fun w' hw' => ?hv4) ?_
        case hv4 =>
          have s0 := (HK.out w' hw').2.1
          go_simp
          with_reducible rfl
        simp only [Act.put, List.setIfInBounds_toArray, List.set_cons_zero, List.set_cons_succ]
        refine mix_take 5 _ ?_ rfl rfl rfl (some 27) rfl (fun w' hw' => ?hv5) ?_
        case hv5 =>
          go_simp
          with_reducible rfl
        simp only [Act.put, List.setIfInBounds_toArray, List.set_cons_zero, List.set_cons_succ]
        refine mix_take 6 _ ?_ rfl rfl rfl (some 28) rfl (fun w' hw' => ?hv6) ?_
        case hv6 =>
          go_simp
          with_reducible rfl
        simp only [Act.put, List.setIfInBounds_toArray, List.set_cons_zero, List.set_cons_succ]
        refine mix_take 7 _ ?_ rfl rfl rfl (some 29) rfl (fun w' hw' => ?hv7) ?_
        case hv7 =>
          have s0 := (HK.out w' hw').2.2.1
          go_simp
          with_reducible rfl
        simp only [Act.put, List.setIfInBounds_toArray, List.set_cons_zero, List.set_cons_succ]
        refine mix_take 8 _ ?_ rfl rfl rfl (some 30) rfl (fun w' hw' => ?hv8) ?_
        case hv8 =>
          go_simp
          with_reducible rfl
        simp only [Act.put, List.setIfInBounds_toArray, List.set_cons_zero, List.set_cons_succ]
        refine mix_take 9 _ ?_ rfl rfl rfl (some 31) rfl (fun w' hw' => ?hv9) ?_
        case hv9 =>
          go_simp
          with_reducible rfl
        simp only [Act.put, List.setIfInBounds_toArray, List.set_cons_zero, List.set_cons_succ]
        refine mix_take 10 _ ?_ rfl rfl rfl (some 32) rfl (fun w' hw' => ?hv10) ?_
        case hv10 =>
          have s0 := (HK.out w' hw').1
          go_simp
          with_reducible rfl
        simp only [Act.put, List.setIfInBounds_toArray, List.set_cons_zero, List.set_cons_succ]
        have hb4 : Below w3.heap.size w3 (w3.drew.alloc (.cells #[.int .i64 p1, .int .i64 p2, .int .i64 p0] 3)) := balloc hbd _
        have g4 := heap_alloc_new w3.drew (.cells #[.int .i64 p1, .int .i64 p2, .int .i64 p0] 3)
        refine mix_build_three 11 _ rfl rfl rfl _ _ _ rfl (some 33) rfl p1 p2 p0 rfl rfl rfl ⟨hb4, ?_⟩
        simp only [Act.put, List.setIfInBounds_toArray, List.set_cons_zero, List.set_cons_succ]
        generalize hw4 : w3.drew.alloc (.cells #[.int .i64 p1, .int .i64 p2, .int .i64 p0] 3) = w4 at *
        have hgs : w3.drew.heap.size = w3.heap.size := rfl
        rw [hgs] at g4 ⊢
        clear hw4 hgs
        refine mix_call 12 _ rfl rfl rfl 95 #[.int .i64 n, .slice (some ⟨w3.heap.size, 0, none⟩) 3 3] (some 34) rfl ?hr12 ?_
        case hr12 => go_simp
        refine (meIndex_any n p1 p0 w3.heap.size 3 (by omega) (by omega) (by omega) (by omega) (by omega) w4 (blk_cell g4 0 _ rfl) (blk_cell g4 2 _ rfl)).mono ?_
        rintro e w5 ⟨rfl, rfl⟩
        rw [HJI.out]
        refine ⟨_, rfl, hb4, ?_⟩
        simp only [Act.put, List.setIfInBounds_toArray, List.set_cons_zero, List.set_cons_succ]
        refine mix_take 13 _ ?_ rfl rfl rfl (some 35) rfl (fun w' hw' => ?hv13) ?_
        case hv13 =>
          go_simp
          with_reducible rfl
        simp only [Act.put, List.setIfInBounds_toArray, List.set_cons_zero, List.set_cons_succ]
        refine mix_take 14 _ ?_ rfl rfl rfl (some 36) rfl (fun w' hw' => ?hv14) ?_
        case hv14 =>
          have s0 := (HK.out w' hw').2.2.2
          go_simp
          with_reducible rfl
        simp only [Act.put, List.setIfInBounds_toArray, List.set_cons_zero, List.set_cons_succ]
        refine mix_take 15 _ ?_ rfl rfl rfl (some 9) rfl (fun w' hw' => ?hv15) ?_
        case hv15 =>
          go_simp
          with_reducible rfl
        simp only [Act.put, List.setIfInBounds_toArray, List.set_cons_zero, List.set_cons_succ]
        refine mix_done ?_
        have hB4 := bnext hB3 hb4
        have hz4 := hB4.size
        have j0 := (hB4.cell (p := ⟨rb, ro, none⟩) (by show rb < _; omega)).trans j0
        have j1 := (hB4.cell (p := ⟨rb, ro + 1, none⟩) (by show rb < _; omega)).trans j1
        have j2 := (hB4.cell (p := ⟨rb, ro + 2, none⟩) (by show rb < _; omega)).trans j2
        have HJ := Lib.hid (fun w' (hb : Below w1.heap.size w4 w') => (⟨(hb.cell (p := ⟨rb, ro, none⟩) (by show rb < _; omega)).trans j0, (hb.cell (p := ⟨rb, ro + 1, none⟩) (by show rb < _; omega)).trans j1, (hb.cell (p := ⟨rb, ro + 2, none⟩) (by show rb < _; omega)).trans j2⟩ :
          w'.cell? ⟨rb, ro, none⟩ = some (.int .i64 t1) ∧ w'.cell? ⟨rb, ro + 1, none⟩ = some (.int .i64 t2) ∧ w'.cell? ⟨rb, ro + 2, none⟩ = some (.int .i64 t0)))
        have hcv := cells_now HCQ.out hB4
        clear hbd hb4 g4 j0 j1 j2 hB3 k0 HK
        go_wp2_with fail
        have hbd4 : Below w1.heap.size w4 w4.drew := (Same.refl w4).drew _
        refine wp_region_mix (fun w' => Below w1.heap.size w4 w') [10, 11, 12] [0, 1, 2, 3, 4, 5, 6, 7, 8, 9, 10, 11, 12, 13] (by kernel_rfl) (by kernel_rfl) (fun _ _ d _ _ h => by cases d <;> exact h) (by kernel_rfl) rfl hbd4 ?_
        refine mix_take 0 _ ?_ rfl rfl rfl (some 37) rfl (fun w' hw' => ?hv0) ?_
        case hv0 =>
          go_simp
          with_reducible rfl
        simp only [Act.put, List.setIfInBounds_toArray, List.set_cons_zero, List.set_cons_succ]
        refine mix_take 1 _ ?_ rfl rfl rfl (some 38) rfl (fun w' hw' => ?hv1) ?_
        case hv1 =>
          go_simp
          with_reducible rfl
        simp only [Act.put, List.setIfInBounds_toArray, List.set_cons_zero, List.set_cons_succ]
        refine mix_take 2 _ ?_ rfl rfl rfl (some 39) rfl (fun w' hw' => ?hv2) ?_
        case hv2 =>
          go_simp
          with_reducible rfl
        simp only [Act.put, List.setIfInBounds_toArray, List.set_cons_zero, List.set_cons_succ]
        refine mix_take 3 _ ?_ rfl rfl rfl (some 40) rfl (fun w' hw' => ?hv3) ?_
        case hv3 =>
          have s0 := (HJ.out w' hw').2.2
          go_simp
          with_reducible rfl
        simp only [Act.put, List.setIfInBounds_toArray, List.set_cons_zero, List.set_cons_succ]
        refine mix_take 4 _ ?_ rfl rfl rfl (some 41) rfl (fun w' hw' => ?hv4) ?_
        case hv4 =>
          go_simp
          with_reducible rfl
        simp only [Act.put, List.setIfInBounds_toArray, List.set_cons_zero, List.set_cons_succ]
        refine mix_take 5 _ ?_ rfl rfl rfl (some 42) rfl (fun w' hw' => ?hv5) ?_
        case hv5 =>
          go_simp
          with_reducible rfl
        simp only [Act.put, List.setIfInBounds_toArray, List.set_cons_zero, List.set_cons_succ]
        refine mix_take 6 _ ?_ rfl rfl rfl (some 43) rfl (fun w' hw' => ?hv6) ?_
        case hv6 =>
          have s0 := (HJ.out w' hw').1
          go_simp
          with_reducible rfl
        simp only [Act.put, List.setIfInBounds_toArray, List.set_cons_zero, List.set_cons_succ]
        refine mix_take 7 _ ?_ rfl rfl rfl (some 44) rfl (fun w' hw' => ?hv7) ?_
        case hv7 =>
          go_simp
          with_reducible rfl
        simp only [Act.put, List.setIfInBounds_toArray, List.set_cons_zero, List.set_cons_succ]
        refine mix_take 8 _ ?_ rfl rfl rfl (some 45) rfl (fun w' hw' => ?hv8) ?_
        case hv8 =>
          go_simp
          with_reducible rfl
        simp only [Act.put, List.setIfInBounds_toArray, List.set_cons_zero, List.set_cons_succ]
        refine mix_take 9 _ ?_ rfl rfl rfl (some 46) rfl (fun w' hw' => ?hv9) ?_
        case hv9 =>
          have s0 := (HJ.out w' hw').2.1
          go_simp
          with_reducible rfl
        simp only [Act.put, List.setIfInBounds_toArray, List.set_cons_zero, List.set_cons_succ]
        have hz14 : w1.heap.size ≤ w4.heap.size := by have := HBQ1.out.size; omega
        have hb5 : Below w4.heap.size w4 (w4.drew.alloc (.cells #[.int .i64 t0, .int .i64 t1, .int .i64 t2] 3)) := balloc ((Same.refl w4).drew _) _
        have g5 := heap_alloc_new w4.drew (.cells #[.int .i64 t0, .int .i64 t1, .int .i64 t2] 3)
        refine mix_build_three 10 _ rfl rfl rfl _ _ _ rfl (some 47) rfl t0 t1 t2 rfl rfl rfl ⟨hb5.mono hz14, ?_⟩
        simp only [Act.put, List.setIfInBounds_toArray, List.set_cons_zero, List.set_cons_succ]
        generalize hw5 : w4.drew.alloc (.cells #[.int .i64 t0, .int .i64 t1, .int .i64 t2] 3) = w5 at *
        have hgs : w4.drew.heap.size = w4.heap.size := rfl
        rw [hgs] at g5 ⊢
        clear hw5 hgs
        have hui := own_block (w := w5) (base := w4.heap.size) (g := w4.heap.size) (cap := 3) (et := 3) (xs := [t0, t1, t2]) (Nat.le_refl _) g5 rfl rfl (by simp [maxLen])
        refine mix_build_row 11 _ rfl rfl rfl _ rfl (some 48) rfl (some ⟨w4.heap.size, 0, none⟩) 3 3 rfl ⟨(balloc hb5 _).mono hz14, ?_⟩
        simp only [Act.put, List.setIfInBounds_toArray, List.set_cons_zero, List.set_cons_succ]
        refine mix_append_row 12 _ rfl rfl w1.heap.size w5.heap.size w4 w5 (.slice va vm vc) (.slice (some ⟨w4.heap.size, 0, none⟩) 3 3) (imF i (tuF im n)) [t0, t1, t2] rfl _ _ rfl (some 49) rfl rfl rfl rfl hcv hb5 hui rfl hz14 (by omega) ?_
        intro v' w7 hc7 hb7 hk7
        have hB7 := (hb5.mono hz14).trans hb7
        refine ⟨hB7, ?_⟩
        simp only [Act.put, List.setIfInBounds_toArray, List.set_cons_zero, List.set_cons_succ]
        refine mix_take 13 _ ?_ rfl rfl rfl (some 6) rfl (fun w' hw' => ?hv13) ?_
        case hv13 =>
          go_simp
          with_reducible rfl
        simp only [Act.put, List.setIfInBounds_toArray, List.set_cons_zero, List.set_cons_succ]
        refine mix_done ?_
        have HBF := Lib.hid (HBQ1.out.trans ((hB4.mono (by have := HBQ1.out.size; omega)).trans hB7))
        have HCF := Lib.hid hc7
        clear hc7 hui g5 hb5 hcv HJ hbd4
        go_wp2_with fail
        go_roundw
        case rel => exact ⟨i + 1, by omega, by go_num, by rw [HSi.out]; exact HCF.out, HBF.out⟩
        case measure => simp [intOf]; omega
      · have hin : i = im.length := by omega
        rw [hin, HLEN.out] at hc
        have hil : ¬ (i : Int) < (im.length : Int) := by omega
        clear hin hlt hi
        go_wp2_with fail
        go_returns
        exact ⟨_, rfl, osslow (ossof hc) hz1, hB1.trans (hb.mono hz1)⟩
end Go.Proofs.Ytlkgmnmnlfaopaa
