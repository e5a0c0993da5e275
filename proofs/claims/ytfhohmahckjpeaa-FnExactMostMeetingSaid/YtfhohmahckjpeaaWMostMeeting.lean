import Derived.Test.YtfhohmahckjpeaaK12
namespace Go.Proofs.Ytfhohmahckjpeaa
open Go.RowKit
set_option maxRecDepth 4000
def OutMostMeeting (w : World) (r0 : Int) (r1 : Bool) (e : Ending) (w' : World) : Prop := e = .returned (.tuple #[.int .i64 r0, .bool r1]) ∧ Below w.heap.size w w'
set_option maxHeartbeats 3200000 in
theorem lawOf_MostMeeting (n : Int) (k : Int) (w : World) (r0 : Int) (r1 : Bool)
    (hs : ∀  (w' : World), Calls Try.prog 32 #[.int .i64 n, .int .i64 k] w' (OutMostMeeting w' r0 r1))
    (hi : ∀  (w' : World), Calls Try.prog 33 #[.int .i64 n, .int .i64 k] w' (OutMostMeeting w' r0 r1)) :
    Calls Try.prog 10 #[.int .i64 n, .int .i64 k] w fun e w' => e = .returned (.bool true) ∧ Below w.heap.size w w' := by
  have HS := Lib.hid hs
  have HI := Lib.hid hi
  clear hs hi
  have hne0 : (r0 != r0) = false := by simp
  have hne1 : (r1 != r1) = false := by simp
  have hB0 : Below w.heap.size w w := Below.refl _ _
  go_enter Try.func10, Try.ntmps10
  go_wp2_with fail
  refine (HS.out  _  ).mono ?_
  rintro e w1 ⟨rfl, hb⟩
  have hc := chg_below hb
  clear hb
  have z1 := hc.size
  replace hB0 := below_chg hB0 hc (by omega) (by omega)
  clear hc
  go_wp2_with fail
  refine (HI.out  _  ).mono ?_
  rintro e w2 ⟨rfl, hb⟩
  have hc := chg_below hb
  clear hb
  have z2 := hc.size
  replace hB0 := below_chg hB0 hc (by omega) (by omega)
  clear hc
  go_wp2_with fail
  go_ret
  exact ⟨rfl, hB0⟩
set_option maxHeartbeats 400000 in
theorem specMostMeeting_no (n k : Int) (h : ¬ (1 ≤ n ∧ n ≤ 8 ∧ 1 ≤ k ∧ k ≤ n)) (w : World) :
    Calls Try.prog 32 #[.int .i64 n, .int .i64 k] w (OutMostMeeting w 0 false) := by
  have HG := Lib.hid (knGiven_no n k h w)
  clear h
  go_enter Try.func32, Try.ntmps32
  go_wp2_with fail
  refine HG.out.mono ?_
  rintro e w' ⟨rfl, rfl⟩
  go_wp2_with fail
  go_returns
  exact ⟨rfl, Below.refl _ _⟩
set_option maxHeartbeats 800000 in
theorem specMostMeeting_yes (n k : Nat) (h : 1 ≤ (n : Int) ∧ (n : Int) ≤ 8 ∧ 1 ≤ (k : Int) ∧ (k : Int) ≤ n) (w : World) :
    Calls Try.prog 32 #[.int .i64 n, .int .i64 k] w (OutMostMeeting w (((meetL n k (kS n k)).length : Int)) true) := by
  have HG := Lib.hid (knGiven_yes n k h w)
  have HC := Lib.hid (knMeeting_any n k (by omega) (by omega) w)
  clear h
  go_enter Try.func32, Try.ntmps32
  go_wp2_with fail
  refine HG.out.mono ?_
  rintro e w' ⟨rfl, rfl⟩
  go_wp2_with fail
  refine HC.out.mono ?_
  rintro e w1 ⟨v, rfl, ho, hb⟩
  obtain ⟨va, vc, -, rfl, -, -⟩ := oi_shape ho
  have HQ : Hid (((toI (meetL n k (kS n k))).length : Int) = ((meetL n k (kS n k)).length : Int)) := Lib.hid (by rw [toI_len])
  clear ho
  go_wp2_with fail
  go_returns
  exact ⟨by rw [HQ.out]; rfl, hb⟩
set_option maxHeartbeats 800000 in
theorem implMostMeeting_no (n k : Int) (h : ¬ (1 ≤ n ∧ n ≤ 8 ∧ 1 ≤ k ∧ k ≤ n)) (w : World) :
    Calls Try.prog 33 #[.int .i64 n, .int .i64 k] w (OutMostMeeting w 0 false) := by
  have HG := Lib.hid (knGraph_no n k h w)
  clear h
  go_enter Try.func33, Try.ntmps33
  go_wp2_with fail
  refine HG.out.mono ?_
  rintro e w1 ⟨rfl, hb1⟩
  have hz := hb1.size
  go_wp2_with fail
  refine (meeting_any [] 0 0 (by omega) (by omega) (by simp) (by simp) none 0 _ ⟨0, 0, ⟨by simp [toI, maxLen], fun j hj => by simp [toI] at hj⟩, .inl rfl⟩).mono ?_
  rintro e w2 ⟨a', cap', rfl, -, hb2⟩
  rw [show toI (meetL 0 0 []) = [] from rfl]
  have hb2' : Below w1.heap.size w1 w2 := (balloc (Below.refl _ _) _).trans (hb2.mono (by simp))
  have i0 : ∀ w, (Instr.field 40 (.agg #[.slice a' 0 cap', .int .i64 0, .int .i64 0]) 0).run Try.prog w = .ok (.slice a' 0 cap') w := fun _ => by kernel_rfl
  go_wp2_with fail
  go_returns
  exact ⟨rfl, bnext hb1 hb2'⟩
set_option maxHeartbeats 800000 in
theorem implMostMeeting_yes (n k : Nat) (h : 1 ≤ (n : Int) ∧ (n : Int) ≤ 8 ∧ 1 ≤ (k : Int) ∧ (k : Int) ≤ n) (w : World) :
    Calls Try.prog 33 #[.int .i64 n, .int .i64 k] w (OutMostMeeting w (((meetL n k (kS n k)).length : Int)) true) := by
  have HG := Lib.hid (knGraph_yes n k (by omega) (by omega) (by omega) w)
  have HL := Lib.hid (kI_len n k (by omega))
  have HM := Lib.hid (fun a cap (w : World) => meeting_any (kS n k) n k (by omega) (by omega) (fun s hs => (kS_lt n k (by omega) s hs).2) (by rw [← kI_length]; exact kI_len n k (by omega)) a cap w)
  go_enter Try.func33, Try.ntmps33
  go_wp2_with fail
  refine HG.out.mono ?_
  rintro e w1 ⟨v, rfl, ho, hb1⟩
  obtain ⟨va, vc, -, rfl, -, hrd⟩ := oi_shape (oi_new ho)
  have hz := hb1.size
  have HR := Lib.hid hrd
  clear hrd ho
  go_wp2_with fail
  refine (HM.out va vc _ (rds_mono (rds_later HR.out (balloc (Below.refl _ _) _)) (by simp))).mono ?_
  rintro e w2 ⟨a', cap', rfl, hr2, hb2⟩
  have hb2' : Below w1.heap.size w1 w2 := (balloc (Below.refl _ _) _).trans (hb2.mono (by simp))
  have HQ : Hid (((toI (meetL n k (kS n k))).length : Int) = ((meetL n k (kS n k)).length : Int)) := Lib.hid (by rw [toI_len])
  clear hr2
  have i0 : ∀ w, (Instr.field 40 (.agg #[.slice a' (toI (meetL n k (kS n k))).length cap', .int .i64 n, .int .i64 k]) 0).run Try.prog w = .ok (.slice a' (toI (meetL n k (kS n k))).length cap') w := fun _ => by kernel_rfl
  go_wp2_with fail
  go_returns
  exact ⟨by rw [HQ.out]; rfl, bnext hb1 hb2'⟩
theorem law_MostMeeting (w : World) (n : Int) (_ : (Lit.int .i64 n).wf = true) (k : Int) (_ : (Lit.int .i64 k).wf = true) :
    Calls Try.prog 10 #[.int .i64 n, .int .i64 k] w fun e w' => e = .returned (.bool true) ∧ Below w.heap.size w w' := by
  by_cases h : 1 ≤ n ∧ n ≤ 8 ∧ 1 ≤ k ∧ k ≤ n
  · obtain ⟨n', rfl⟩ := Int.eq_ofNat_of_zero_le (show 0 ≤ n by omega)
    obtain ⟨k', rfl⟩ := Int.eq_ofNat_of_zero_le (show 0 ≤ k by omega)
    exact lawOf_MostMeeting n' k' w (((meetL n' k' (kS n' k')).length : Int)) true (fun w' => specMostMeeting_yes n' k' h w') (fun w' => implMostMeeting_yes n' k' h w')
  · exact lawOf_MostMeeting n k w 0 false (fun w' => specMostMeeting_no n k h w') (fun w' => implMostMeeting_no n k h w')
end Go.Proofs.Ytfhohmahckjpeaa
