import Derived.Test.YtfhohmahckjpeaaK5
namespace Go.Proofs.Ytfhohmahckjpeaa
open Go.RowKit
set_option maxRecDepth 4000
def OutSetsOf (w : World) (r0 : List Int) (r1 : Bool) (e : Ending) (w' : World) : Prop := ∃ v0, e = .returned (.tuple #[v0, .bool r1]) ∧ OI w' w.heap.size w'.heap.size v0 r0 ∧ Below w.heap.size w w'
set_option maxHeartbeats 3200000 in
theorem lawOf_SetsOf (n : Int) (k : Int) (w : World) (r0 : List Int) (r1 : Bool) (hL0 : r0.length ≤ 100000)
    (hs : ∀  (w' : World), Calls Try.prog 14 #[.int .i64 n, .int .i64 k] w' (OutSetsOf w' r0 r1))
    (hi : ∀  (w' : World), Calls Try.prog 15 #[.int .i64 n, .int .i64 k] w' (OutSetsOf w' r0 r1)) :
    Calls Try.prog 3 #[.int .i64 n, .int .i64 k] w fun e w' => e = .returned (.bool true) ∧ Below w.heap.size w w' := by
  have HS := Lib.hid hs
  have HI := Lib.hid hi
  clear hs hi
  have hne1 : (r1 != r1) = false := by simp
  have hB0 : Below w.heap.size w w := Below.refl _ _
  go_enter Try.func3, Try.ntmps3
  go_wp2_with fail
  refine (HS.out  _  ).mono ?_
  rintro e w1 ⟨vs0, rfl, os0, hb⟩
  have hc := chg_below hb
  clear hb
  have z1 := hc.size
  replace hB0 := below_chg hB0 hc (by omega) (by omega)
  clear hc
  obtain ⟨as0, cs0, -, rfl, -⟩ := oi_shape os0
  go_wp2_with fail
  refine (HI.out  _  ).mono ?_
  rintro e w2 ⟨vg0, rfl, og0, hb⟩
  have hc := chg_below hb
  clear hb
  have z2 := hc.size
  replace os0 := oi_keep os0 hc (by omega) (by omega)
  replace hB0 := below_chg hB0 hc (by omega) (by omega)
  clear hc
  obtain ⟨ag0, cg0, -, rfl, -⟩ := oi_shape og0
  go_wp2_with fail
  refine (eqIntS_rd r0 ag0 as0 _ _ cg0 cs0 _ (oi_rds og0) (oi_rds os0)).mono ?_
  rintro e w3 ⟨rfl, hs⟩
  have hc := chg_same hs
  clear hs
  have z3 := hc.size
  replace os0 := oi_keep os0 hc (by omega) (by omega)
  replace og0 := oi_keep og0 hc (by omega) (by omega)
  replace hB0 := below_chg hB0 hc (by omega) (by omega)
  clear hc
  go_wp2_with fail
  refine (markIntS_chg r0 ag0 _ _ cg0 1 _ og0 (by omega) (by omega)).mono ?_
  rintro e w4 ⟨rfl, om0, hc⟩
  have hlm0 : (mkd 1 r0.length r0).length = r0.length := mkd_len _ _ _ (Nat.le_refl _)
  have HLM0 := Lib.hid hlm0
  clear hlm0
  clear og0
  have z4 := hc.size
  replace os0 := oi_keep os0 hc (by omega) (by omega)
  replace hB0 := below_chg hB0 hc (by omega) (by omega)
  clear hc
  go_wp2_with fail
  refine (heldIntS_rd r0 1 ag0 _ _ cg0 _ HLM0.out (oi_rds2 om0) (by omega) (by omega)).mono ?_
  rintro e w' ⟨rfl, rfl⟩
  go_wp2_with fail
  refine (HI.out  _  ).mono ?_
  rintro e w5 ⟨vh0, rfl, oh0, hb⟩
  have hc := chg_below hb
  clear hb
  have z5 := hc.size
  replace os0 := oi_keep os0 hc (by omega) (by omega)
  replace om0 := oi_keep om0 hc (by omega) (by omega)
  replace hB0 := below_chg hB0 hc (by omega) (by omega)
  clear hc
  obtain ⟨ah0, ch0, -, rfl, -⟩ := oi_shape oh0
  go_wp2_with fail
  refine (eqIntS_rd r0 ah0 as0 _ _ ch0 cs0 _ (oi_rds oh0) (oi_rds os0)).mono ?_
  rintro e w6 ⟨rfl, hs⟩
  have hc := chg_same hs
  clear hs
  have z6 := hc.size
  replace os0 := oi_keep os0 hc (by omega) (by omega)
  replace om0 := oi_keep om0 hc (by omega) (by omega)
  replace oh0 := oi_keep oh0 hc (by omega) (by omega)
  replace hB0 := below_chg hB0 hc (by omega) (by omega)
  clear hc
  go_wp2_with fail
  refine (heldIntS_rd r0 1 ag0 _ _ cg0 _ HLM0.out (oi_rds2 om0) (by omega) (by omega)).mono ?_
  rintro e w' ⟨rfl, rfl⟩
  go_wp2_with fail
  go_ret
  exact ⟨rfl, hB0⟩
/-- The numbers n and k are given. -/
def knG (n k : Int) : Bool := decide (1 ≤ n ∧ n ≤ 8 ∧ 1 ≤ k ∧ k ≤ n)
set_option maxHeartbeats 400000 in
theorem specSetsOf_no (n k : Int) (h : ¬ (1 ≤ n ∧ n ≤ 8 ∧ 1 ≤ k ∧ k ≤ n)) (w : World) :
    Calls Try.prog 14 #[.int .i64 n, .int .i64 k] w (OutSetsOf w [] false) := by
  have HG := Lib.hid (knGiven_no n k h w)
  clear h
  go_enter Try.func14, Try.ntmps14
  go_wp2_with fail
  refine HG.out.mono ?_
  rintro e w' ⟨rfl, rfl⟩
  go_wp2_with fail
  go_returns
  exact ⟨_, rfl, oi_nil _ _ _, Below.refl _ _⟩
set_option maxHeartbeats 400000 in
theorem specSetsOf_yes (n k : Nat) (h : 1 ≤ (n : Int) ∧ (n : Int) ≤ 8 ∧ 1 ≤ (k : Int) ∧ (k : Int) ≤ n) (w : World) :
    Calls Try.prog 14 #[.int .i64 n, .int .i64 k] w (OutSetsOf w (kI n k) true) := by
  have HG := Lib.hid (knGiven_yes n k h w)
  have HS := Lib.hid (knSets_any n k (by omega) w)
  clear h
  go_enter Try.func14, Try.ntmps14
  go_wp2_with fail
  refine HG.out.mono ?_
  rintro e w' ⟨rfl, rfl⟩
  go_wp2_with fail
  refine HS.out.mono ?_
  rintro e w1 ⟨v, rfl, ho, hb⟩
  go_wp2_with fail
  go_returns
  exact ⟨_, rfl, ho, hb⟩
set_option maxHeartbeats 800000 in
theorem implSetsOf_no (n k : Int) (h : ¬ (1 ≤ n ∧ n ≤ 8 ∧ 1 ≤ k ∧ k ≤ n)) (w : World) :
    Calls Try.prog 15 #[.int .i64 n, .int .i64 k] w (OutSetsOf w [] false) := by
  have HG := Lib.hid (knGraph_no n k h w)
  clear h
  go_enter Try.func15, Try.ntmps15
  go_wp2_with fail
  refine HG.out.mono ?_
  rintro e w1 ⟨rfl, hb1⟩
  have hz := hb1.size
  go_wp2_with fail
  refine (list_any [] none 0 0 0 _ ⟨0, 0, ⟨by simp [maxLen], fun j hj => by simp at hj⟩, .inl rfl⟩ (by simp)).mono ?_
  rintro e w2 ⟨v, rfl, ho, hb2⟩
  go_wp2_with fail
  go_returns
  exact ⟨_, rfl, oi_low ho (by simp; omega), bnext (balloc hb1 _) hb2⟩
set_option maxHeartbeats 800000 in
theorem implSetsOf_yes (n k : Nat) (h : 1 ≤ (n : Int) ∧ (n : Int) ≤ 8 ∧ 1 ≤ (k : Int) ∧ (k : Int) ≤ n) (w : World) :
    Calls Try.prog 15 #[.int .i64 n, .int .i64 k] w (OutSetsOf w (kI n k) true) := by
  have HG := Lib.hid (knGraph_yes n k (by omega) (by omega) (by omega) w)
  have HL := Lib.hid (kI_len n k (by omega))
  clear h
  go_enter Try.func15, Try.ntmps15
  go_wp2_with fail
  refine HG.out.mono ?_
  rintro e w1 ⟨v, rfl, ho, hb1⟩
  obtain ⟨va, vc, -, rfl, -, hrd⟩ := oi_shape (oi_new ho)
  have hz := hb1.size
  have HR := Lib.hid hrd
  clear hrd ho
  go_wp2_with fail
  refine (list_any (kI n k) va vc n k _ (rds_mono (rds_later HR.out (balloc (Below.refl _ _) _)) (by simp)) (by have := HL.out; omega)).mono ?_
  rintro e w2 ⟨v, rfl, ho, hb2⟩
  go_wp2_with fail
  go_returns
  exact ⟨_, rfl, oi_low ho (by simp; omega), bnext (balloc hb1 _) hb2⟩
theorem law_SetsOf (w : World) (n : Int) (_ : (Lit.int .i64 n).wf = true) (k : Int) (_ : (Lit.int .i64 k).wf = true) :
    Calls Try.prog 3 #[.int .i64 n, .int .i64 k] w fun e w' => e = .returned (.bool true) ∧ Below w.heap.size w w' := by
  by_cases h : 1 ≤ n ∧ n ≤ 8 ∧ 1 ≤ k ∧ k ≤ n
  · obtain ⟨n', rfl⟩ := Int.eq_ofNat_of_zero_le (show 0 ≤ n by omega)
    obtain ⟨k', rfl⟩ := Int.eq_ofNat_of_zero_le (show 0 ≤ k by omega)
    have hl := kI_len n' k' (by omega)
    exact lawOf_SetsOf n' k' w (kI n' k') true (by omega) (fun w' => specSetsOf_yes n' k' h w') (fun w' => implSetsOf_yes n' k' h w')
  · exact lawOf_SetsOf n k w [] false (by simp) (fun w' => specSetsOf_no n k h w') (fun w' => implSetsOf_no n k h w')
end Go.Proofs.Ytfhohmahckjpeaa
