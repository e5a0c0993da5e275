import Derived.Test.YtokhpchnnilbaaaNx
import Derived.Test.YtokhpchnnilbaaaN6
namespace Go.Proofs.Ytokhpchnnilbaaa
open Go.RowKit
set_option maxRecDepth 4000
def OutCountsOfBeads (w : World) (r0 : List Int) (r1 : Bool) (e : Ending) (w' : World) : Prop := ∃ v0, e = .returned (.tuple #[v0, .bool r1]) ∧ OI w' w.heap.size w'.heap.size v0 r0 ∧ Below w.heap.size w w'
set_option maxHeartbeats 3200000 in
theorem lawOf_CountsOfBeads (s : ByteArray) (w : World) (r0 : List Int) (r1 : Bool) (hL0 : r0.length ≤ 100000)
    (hs : ∀  (w' : World), s.size ≤ 1048576 → Calls Try.prog 19 #[.string s] w' (OutCountsOfBeads w' r0 r1))
    (hi : ∀  (w' : World), s.size ≤ 1048576 → Calls Try.prog 20 #[.string s] w' (OutCountsOfBeads w' r0 r1)) :
    Calls Try.prog 5 #[.string s] w fun e w' => e = .returned (.bool true) ∧ Below w.heap.size w w' := by
  have HS := Lib.hid hs
  have HI := Lib.hid hi
  clear hs hi
  have hne1 : (r1 != r1) = false := by simp
  have hB0 : Below w.heap.size w w := Below.refl _ _
  by_cases hbig_s : (1048576 : Int) < (s.size : Int)
  · go_enter Try.func5, Try.ntmps5
    go_wp2_with fail
    go_ret
    exact ⟨rfl, Below.refl _ _⟩
  have hsz_s : s.size ≤ 1048576 := by omega
  go_enter Try.func5, Try.ntmps5
  go_wp2_with fail
  refine (HS.out  _ hsz_s ).mono ?_
  rintro e w1 ⟨vs0, rfl, os0, hb⟩
  have hc := chg_below hb
  clear hb
  have z1 := hc.size
  replace hB0 := below_chg hB0 hc (by omega) (by omega)
  clear hc
  obtain ⟨as0, cs0, -, rfl, -⟩ := oi_shape os0
  go_wp2_with fail
  refine (HI.out  _ hsz_s ).mono ?_
  rintro e w2 ⟨vg0, rfl, og0, hb⟩
  have hc := chg_below hb
  clear hb
  have z2 := hc.size
  replace os0 := oi_keep os0 hc (by omega) (by omega)
  replace hB0 := below_chg hB0 hc (by omega) (by omega)
  clear hc
  obtain ⟨ag0, cg0, -, rfl, -⟩ := oi_shape og0
  go_wp2_with fail
  refine (eqIntS_rd r0 ag0 as0 _ _ cg0 cs0 _ (oi_rds og0) (oi_rds os0)).mono ?_
  rintro e w3 ⟨rfl, hs⟩
  have hc := chg_same hs
  clear hs
  have z3 := hc.size
  replace os0 := oi_keep os0 hc (by omega) (by omega)
  replace og0 := oi_keep og0 hc (by omega) (by omega)
  replace hB0 := below_chg hB0 hc (by omega) (by omega)
  clear hc
  go_wp2_with fail
  refine (markIntS_chg r0 ag0 _ _ cg0 1 _ og0 (by omega) (by omega)).mono ?_
  rintro e w4 ⟨rfl, om0, hc⟩
  have hlm0 : (mkd 1 r0.length r0).length = r0.length := mkd_len _ _ _ (Nat.le_refl _)
  have HLM0 := Lib.hid hlm0
  clear hlm0
  clear og0
  have z4 := hc.size
  replace os0 := oi_keep os0 hc (by omega) (by omega)
  replace hB0 := below_chg hB0 hc (by omega) (by omega)
  clear hc
  go_wp2_with fail
  refine (heldIntS_rd r0 1 ag0 _ _ cg0 _ HLM0.out (oi_rds2 om0) (by omega) (by omega)).mono ?_
  rintro e w' ⟨rfl, rfl⟩
  go_wp2_with fail
  refine (HI.out  _ hsz_s ).mono ?_
  rintro e w5 ⟨vh0, rfl, oh0, hb⟩
  have hc := chg_below hb
  clear hb
  have z5 := hc.size
  replace os0 := oi_keep os0 hc (by omega) (by omega)
  replace om0 := oi_keep om0 hc (by omega) (by omega)
  replace hB0 := below_chg hB0 hc (by omega) (by omega)
  clear hc
  obtain ⟨ah0, ch0, -, rfl, -⟩ := oi_shape oh0
  go_wp2_with fail
  refine (eqIntS_rd r0 ah0 as0 _ _ ch0 cs0 _ (oi_rds oh0) (oi_rds os0)).mono ?_
  rintro e w6 ⟨rfl, hs⟩
  have hc := chg_same hs
  clear hs
  have z6 := hc.size
  replace os0 := oi_keep os0 hc (by omega) (by omega)
  replace om0 := oi_keep om0 hc (by omega) (by omega)
  replace oh0 := oi_keep oh0 hc (by omega) (by omega)
  replace hB0 := below_chg hB0 hc (by omega) (by omega)
  clear hc
  go_wp2_with fail
  refine (heldIntS_rd r0 1 ag0 _ _ cg0 _ HLM0.out (oi_rds2 om0) (by omega) (by omega)).mono ?_
  rintro e w' ⟨rfl, rfl⟩
  go_wp2_with fail
  go_ret
  exact ⟨rfl, hB0⟩
def coV (s : ByteArray) : List Int := if goodS s = true then cL (cnt s s.size) else []
theorem coV_yes {s : ByteArray} (h : goodS s = true) : coV s = cL (cnt s s.size) := by simp [coV, h]
theorem coV_no {s : ByteArray} (h : goodS s = false) : coV s = [] := by simp [coV, h]
theorem coV_len (s : ByteArray) : (coV s).length ≤ 100000 := by unfold coV; split <;> simp [cL]
set_option maxHeartbeats 800000 in
theorem specCounts_any (s : ByteArray) (w : World) : Calls Try.prog 19 #[.string s] w (OutCountsOfBeads w (coV s) (goodS s)) := by
  have HG := Lib.hid (nlGood_any s w)
  cases h : goodS s
  · have HV := Lib.hid (coV_no h)
    rw [h] at HG
    rw [HV.out]
    clear h
    go_enter Try.func19, Try.ntmps19
    go_wp2_with fail
    refine HG.out.mono ?_
    rintro e w' ⟨rfl, rfl⟩
    go_wp2_with fail
    go_returns
    exact ⟨_, rfl, oi_nil _ _ _, Below.refl _ _⟩
  · have HK := Lib.hid (fun w => nlCounts_any s h w)
    have HV := Lib.hid (coV_yes h)
    rw [h] at HG
    rw [HV.out]
    clear h
    go_enter Try.func19, Try.ntmps19
    go_wp2_with fail
    refine HG.out.mono ?_
    rintro e w' ⟨rfl, rfl⟩
    go_wp2_with fail
    refine (HK.out _).mono ?_
    rintro e w1 ⟨v, rfl, ho, hb⟩
    go_wp2_with fail
    go_returns
    exact ⟨_, rfl, ho, hb⟩
set_option maxHeartbeats 800000 in
theorem implCounts_any (s : ByteArray) (w : World) : Calls Try.prog 20 #[.string s] w (OutCountsOfBeads w (coV s) (goodS s)) := by
  have HG := Lib.hid (neckOf_any s w)
  cases h : goodS s
  · have HV := Lib.hid (coV_no h)
    rw [h, gT_no h] at HG
    rw [HV.out]
    clear h
    go_enter Try.func20, Try.ntmps20
    go_wp2_with fail
    refine HG.out.mono ?_
    rintro e w' ⟨rfl, rfl⟩
    go_wp2_with fail
    go_returns
    exact ⟨_, rfl, oi_nil _ _ _, Below.refl _ _⟩
  · have HK := Lib.hid (fun w => beads_any s h w)
    have HV := Lib.hid (coV_yes h)
    rw [h, gT_yes h] at HG
    rw [HV.out]
    clear h
    go_enter Try.func20, Try.ntmps20
    go_wp2_with fail
    refine HG.out.mono ?_
    rintro e w' ⟨rfl, rfl⟩
    go_wp2_with fail
    refine (HK.out _).mono ?_
    rintro e w1 ⟨rfl, hib, hb⟩
    have HC := Lib.hid (counts_any _ _ _ w1 hib)
    have hz := hb.size
    clear hib
    go_wp2_with fail
    refine HC.out.mono ?_
    rintro e w2 ⟨v, rfl, ho, hb2⟩
    rw [iL_cL] at ho
    go_wp2_with fail
    go_returns
    exact ⟨_, rfl, oi_lo9 ho hz, bnext hb hb2⟩
theorem law_CountsOfBeads (w : World) (s : ByteArray) (_ : s.size ≤ maxLen) :
    Calls Try.prog 5 #[.string s] w fun e w' => e = .returned (.bool true) ∧ Below w.heap.size w w' :=
  lawOf_CountsOfBeads s w (coV s) (goodS s) (coV_len s) (fun w' _ => specCounts_any s w') (fun w' _ => implCounts_any s w')
end Go.Proofs.Ytokhpchnnilbaaa
