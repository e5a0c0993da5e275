import Derived.Test.YtfhohmahckjpeaaK12
namespace Go.Proofs.Ytfhohmahckjpeaa
open Go.RowKit
set_option maxRecDepth 4000
def OutStableSets (w : World) (r0 : List Int) (r1 : Bool) (e : Ending) (w' : World) : Prop := ∃ v0, e = .returned (.tuple #[v0, .bool r1]) ∧ OI w' w.heap.size w'.heap.size v0 r0 ∧ Below w.heap.size w w'
set_option maxHeartbeats 3200000 in
theorem lawOf_StableSets (n : Int) (k : Int) (w : World) (r0 : List Int) (r1 : Bool) (hL0 : r0.length ≤ 100000)
    (hs : ∀  (w' : World), Calls Try.prog 36 #[.int .i64 n, .int .i64 k] w' (OutStableSets w' r0 r1))
    (hi : ∀  (w' : World), Calls Try.prog 37 #[.int .i64 n, .int .i64 k] w' (OutStableSets w' r0 r1)) :
    Calls Try.prog 12 #[.int .i64 n, .int .i64 k] w fun e w' => e = .returned (.bool true) ∧ Below w.heap.size w w' := by
  have HS := Lib.hid hs
  have HI := Lib.hid hi
  clear hs hi
  have hne1 : (r1 != r1) = false := by simp
  have hB0 : Below w.heap.size w w := Below.refl _ _
  go_enter Try.func12, Try.ntmps12
  go_wp2_with fail
  refine (HS.out  _  ).mono ?_
  rintro e w1 ⟨vs0, rfl, os0, hb⟩
  have hc := chg_below hb
  clear hb
  have z1 := hc.size
  replace hB0 := below_chg hB0 hc (by omega) (by omega)
  clear hc
  obtain ⟨as0, cs0, -, rfl, -⟩ := oi_shape os0
  go_wp2_with fail
  refine (HI.out  _  ).mono ?_
  rintro e w2 ⟨vg0, rfl, og0, hb⟩
  have hc := chg_below hb
  clear hb
  have z2 := hc.size
  replace os0 := oi_keep os0 hc (by omega) (by omega)
  replace hB0 := below_chg hB0 hc (by omega) (by omega)
  clear hc
  obtain ⟨ag0, cg0, -, rfl, -⟩ := oi_shape og0
  go_wp2_with fail
  refine (eqIntS_rd r0 ag0 as0 _ _ cg0 cs0 _ (oi_rds og0) (oi_rds os0)).mono ?_
  rintro e w3 ⟨rfl, hs⟩
  have hc := chg_same hs
  clear hs
  have z3 := hc.size
  replace os0 := oi_keep os0 hc (by omega) (by omega)
  replace og0 := oi_keep og0 hc (by omega) (by omega)
  replace hB0 := below_chg hB0 hc (by omega) (by omega)
  clear hc
  go_wp2_with fail
  refine (markIntS_chg r0 ag0 _ _ cg0 1 _ og0 (by omega) (by omega)).mono ?_
  rintro e w4 ⟨rfl, om0, hc⟩
  have hlm0 : (mkd 1 r0.length r0).length = r0.length := mkd_len _ _ _ (Nat.le_refl _)
  have HLM0 := Lib.hid hlm0
  clear hlm0
  clear og0
  have z4 := hc.size
  replace os0 := oi_keep os0 hc (by omega) (by omega)
  replace hB0 := below_chg hB0 hc (by omega) (by omega)
  clear hc
  go_wp2_with fail
  refine (heldIntS_rd r0 1 ag0 _ _ cg0 _ HLM0.out (oi_rds2 om0) (by omega) (by omega)).mono ?_
  rintro e w' ⟨rfl, rfl⟩
  go_wp2_with fail
  refine (HI.out  _  ).mono ?_
  rintro e w5 ⟨vh0, rfl, oh0, hb⟩
  have hc := chg_below hb
  clear hb
  have z5 := hc.size
  replace os0 := oi_keep os0 hc (by omega) (by omega)
  replace om0 := oi_keep om0 hc (by omega) (by omega)
  replace hB0 := below_chg hB0 hc (by omega) (by omega)
  clear hc
  obtain ⟨ah0, ch0, -, rfl, -⟩ := oi_shape oh0
  go_wp2_with fail
  refine (eqIntS_rd r0 ah0 as0 _ _ ch0 cs0 _ (oi_rds oh0) (oi_rds os0)).mono ?_
  rintro e w6 ⟨rfl, hs⟩
  have hc := chg_same hs
  clear hs
  have z6 := hc.size
  replace os0 := oi_keep os0 hc (by omega) (by omega)
  replace om0 := oi_keep om0 hc (by omega) (by omega)
  replace oh0 := oi_keep oh0 hc (by omega) (by omega)
  replace hB0 := below_chg hB0 hc (by omega) (by omega)
  clear hc
  go_wp2_with fail
  refine (heldIntS_rd r0 1 ag0 _ _ cg0 _ HLM0.out (oi_rds2 om0) (by omega) (by omega)).mono ?_
  rintro e w' ⟨rfl, rfl⟩
  go_wp2_with fail
  go_ret
  exact ⟨rfl, hB0⟩
set_option maxHeartbeats 400000 in
theorem specStableSets_no (n k : Int) (h : ¬ (1 ≤ n ∧ n ≤ 8 ∧ 1 ≤ k ∧ k ≤ n)) (w : World) :
    Calls Try.prog 36 #[.int .i64 n, .int .i64 k] w (OutStableSets w [] false) := by
  have HG := Lib.hid (knGiven_no n k h w)
  clear h
  go_enter Try.func36, Try.ntmps36
  go_wp2_with fail
  refine HG.out.mono ?_
  rintro e w' ⟨rfl, rfl⟩
  go_wp2_with fail
  go_returns
  exact ⟨_, rfl, oi_nil _ _ _, Below.refl _ _⟩
set_option maxHeartbeats 800000 in
theorem specStableSets_yes (n k : Nat) (h : 1 ≤ (n : Int) ∧ (n : Int) ≤ 8 ∧ 1 ≤ (k : Int) ∧ (k : Int) ≤ n) (w : World) :
    Calls Try.prog 36 #[.int .i64 n, .int .i64 k] w (OutStableSets w (toI (stabL n (kS n k))) true) := by
  have HG := Lib.hid (knGiven_yes n k h w)
  have HC := Lib.hid (knStable8 n k (by omega) (by omega) (by omega) w)
  clear h
  go_enter Try.func36, Try.ntmps36
  go_wp2_with fail
  refine HG.out.mono ?_
  rintro e w' ⟨rfl, rfl⟩
  go_wp2_with fail
  refine HC.out.mono ?_
  rintro e w1 ⟨v, rfl, ho, hb⟩
  go_wp2_with fail
  go_returns
  exact ⟨_, rfl, ho, hb⟩
set_option maxHeartbeats 800000 in
theorem implStableSets_no (n k : Int) (h : ¬ (1 ≤ n ∧ n ≤ 8 ∧ 1 ≤ k ∧ k ≤ n)) (w : World) :
    Calls Try.prog 37 #[.int .i64 n, .int .i64 k] w (OutStableSets w [] false) := by
  have HG := Lib.hid (knGraph_no n k h w)
  clear h
  go_enter Try.func37, Try.ntmps37
  go_wp2_with fail
  refine HG.out.mono ?_
  rintro e w1 ⟨rfl, hb1⟩
  have hz := hb1.size
  go_wp2_with fail
  refine (stable_any [] 0 0 (by omega) (by simp) (by simp) none 0 _ ⟨0, 0, ⟨by simp [toI, maxLen], fun j hj => by simp [toI] at hj⟩, .inl rfl⟩).mono ?_
  rintro e w2 ⟨a', cap', rfl, hr2, hb2⟩
  rw [show toI (stabL 0 []) = [] from rfl] at hr2 ⊢
  have hb2' : Below w1.heap.size w1 w2 := (balloc (Below.refl _ _) _).trans (hb2.mono (by simp))
  have hz2 := hb2'.size
  go_wp2_with fail
  refine (list_any [] a' cap' 0 0 _ hr2 (by simp)).mono ?_
  rintro e w3 ⟨v, rfl, ho, hb3⟩
  go_wp2_with fail
  go_returns
  exact ⟨_, rfl, oi_low ho (by omega), bnext (bnext hb1 hb2') hb3⟩
set_option maxHeartbeats 800000 in
theorem implStableSets_yes (n k : Nat) (h : 1 ≤ (n : Int) ∧ (n : Int) ≤ 8 ∧ 1 ≤ (k : Int) ∧ (k : Int) ≤ n) (w : World) :
    Calls Try.prog 37 #[.int .i64 n, .int .i64 k] w (OutStableSets w (toI (stabL n (kS n k))) true) := by
  have HG := Lib.hid (knGraph_yes n k (by omega) (by omega) (by omega) w)
  have HL := Lib.hid (kI_len n k (by omega))
  have HLL : Hid ((toI (stabL n (kS n k))).length ≤ 1000) := Lib.hid (by have := stab_len n k (by omega); omega)
  have HM := Lib.hid (fun a cap (w : World) => stable_any (kS n k) n k (by omega) (fun s hs => (kS_lt n k (by omega) s hs).2) (by rw [← kI_length]; exact kI_len n k (by omega)) a cap w)
  clear h
  go_enter Try.func37, Try.ntmps37
  go_wp2_with fail
  refine HG.out.mono ?_
  rintro e w1 ⟨v, rfl, ho, hb1⟩
  obtain ⟨va, vc, -, rfl, -, hrd⟩ := oi_shape (oi_new ho)
  have hz := hb1.size
  have HR := Lib.hid hrd
  clear hrd ho
  go_wp2_with fail
  refine (HM.out va vc _ (rds_mono (rds_later HR.out (balloc (Below.refl _ _) _)) (by simp))).mono ?_
  rintro e w2 ⟨a', cap', rfl, hr2, hb2⟩
  have hb2' : Below w1.heap.size w1 w2 := (balloc (Below.refl _ _) _).trans (hb2.mono (by simp))
  have hz2 := hb2'.size
  go_wp2_with fail
  refine (list_any (toI (stabL n (kS n k))) a' cap' n k _ hr2 HLL.out).mono ?_
  rintro e w3 ⟨v, rfl, ho, hb3⟩
  go_wp2_with fail
  go_returns
  exact ⟨_, rfl, oi_low ho (by omega), bnext (bnext hb1 hb2') hb3⟩
theorem law_StableSets (w : World) (n : Int) (_ : (Lit.int .i64 n).wf = true) (k : Int) (_ : (Lit.int .i64 k).wf = true) :
    Calls Try.prog 12 #[.int .i64 n, .int .i64 k] w fun e w' => e = .returned (.bool true) ∧ Below w.heap.size w w' := by
  by_cases h : 1 ≤ n ∧ n ≤ 8 ∧ 1 ≤ k ∧ k ≤ n
  · obtain ⟨n', rfl⟩ := Int.eq_ofNat_of_zero_le (show 0 ≤ n by omega)
    obtain ⟨k', rfl⟩ := Int.eq_ofNat_of_zero_le (show 0 ≤ k by omega)
    have hl := stab_len n' k' (by omega)
    exact lawOf_StableSets n' k' w (toI (stabL n' (kS n' k'))) true (by omega) (fun w' => specStableSets_yes n' k' h w') (fun w' => implStableSets_yes n' k' h w')
  · exact lawOf_StableSets n k w [] false (by simp) (fun w' => specStableSets_no n k h w') (fun w' => implStableSets_no n k h w')
end Go.Proofs.Ytfhohmahckjpeaa
