import Derived.Test.YtfhohmahckjpeaaK6b
namespace Go.Proofs.Ytfhohmahckjpeaa
open Go.RowKit
set_option maxRecDepth 4000
def OutFewestColours (w : World) (r0 : Int) (r1 : Bool) (e : Ending) (w' : World) : Prop := e = .returned (.tuple #[.int .i64 r0, .bool r1]) ∧ Below w.heap.size w w'
set_option maxHeartbeats 3200000 in
theorem lawOf_FewestColours (n : Int) (k : Int) (w : World) (r0 : Int) (r1 : Bool)
    (hs : ∀  (w' : World), Calls Try.prog 25 #[.int .i64 n, .int .i64 k] w' (OutFewestColours w' r0 r1))
    (hi : ∀  (w' : World), Calls Try.prog 26 #[.int .i64 n, .int .i64 k] w' (OutFewestColours w' r0 r1)) :
    Calls Try.prog 7 #[.int .i64 n, .int .i64 k] w fun e w' => e = .returned (.bool true) ∧ Below w.heap.size w w' := by
  have HS := Lib.hid hs
  have HI := Lib.hid hi
  clear hs hi
  have hne0 : (r0 != r0) = false := by simp
  have hne1 : (r1 != r1) = false := by simp
  have hB0 : Below w.heap.size w w := Below.refl _ _
  go_enter Try.func7, Try.ntmps7
  go_wp2_with fail
  refine (HS.out  _  ).mono ?_
  rintro e w1 ⟨rfl, hb⟩
  have hc := chg_below hb
  clear hb
  have z1 := hc.size
  replace hB0 := below_chg hB0 hc (by omega) (by omega)
  clear hc
  go_wp2_with fail
  refine (HI.out  _  ).mono ?_
  rintro e w2 ⟨rfl, hb⟩
  have hc := chg_below hb
  clear hb
  have z2 := hc.size
  replace hB0 := below_chg hB0 hc (by omega) (by omega)
  clear hc
  go_wp2_with fail
  go_ret
  exact ⟨rfl, hB0⟩
set_option maxHeartbeats 400000 in
theorem specFewestColours_no (n k : Int) (h : ¬ (1 ≤ n ∧ n ≤ 8 ∧ 1 ≤ k ∧ k ≤ n)) (w : World) :
    Calls Try.prog 25 #[.int .i64 n, .int .i64 k] w (OutFewestColours w 0 false) := by
  have HG := Lib.hid (knGiven_no n k h w)
  clear h
  go_enter Try.func25, Try.ntmps25
  go_wp2_with fail
  refine HG.out.mono ?_
  rintro e w' ⟨rfl, rfl⟩
  go_wp2_with fail
  go_returns
  exact ⟨rfl, Below.refl _ _⟩
set_option maxHeartbeats 800000 in
theorem specFewestColours_yes (n k : Nat) (h : 1 ≤ (n : Int) ∧ (n : Int) ≤ 8 ∧ 1 ≤ (k : Int) ∧ (k : Int) ≤ n) (w : World) :
    Calls Try.prog 25 #[.int .i64 n, .int .i64 k] w (OutFewestColours w (((fewK n k : Nat) : Int)) true) := by
  have HG := Lib.hid (knGiven_yes n k h w)
  have HC := Lib.hid (knFewest_any n k (by omega) (by omega) w)
  clear h
  go_enter Try.func25, Try.ntmps25
  go_wp2_with fail
  refine HG.out.mono ?_
  rintro e w' ⟨rfl, rfl⟩
  go_wp2_with fail
  refine HC.out.mono ?_
  rintro e w1 ⟨rfl, rfl⟩
  go_wp2_with fail
  go_returns
  exact ⟨rfl, Below.refl _ _⟩
set_option maxHeartbeats 800000 in
theorem implFewestColours_no (n k : Int) (h : ¬ (1 ≤ n ∧ n ≤ 8 ∧ 1 ≤ k ∧ k ≤ n)) (w : World) :
    Calls Try.prog 26 #[.int .i64 n, .int .i64 k] w (OutFewestColours w 0 false) := by
  have HG := Lib.hid (knGraph_no n k h w)
  clear h
  go_enter Try.func26, Try.ntmps26
  go_wp2_with fail
  refine HG.out.mono ?_
  rintro e w1 ⟨rfl, hb1⟩
  have hz := hb1.size
  go_wp2_with fail
  go_returns
  exact ⟨rfl, balloc hb1 _⟩
set_option maxHeartbeats 800000 in
theorem implFewestColours_yes (n k : Nat) (h : 1 ≤ (n : Int) ∧ (n : Int) ≤ 8 ∧ 1 ≤ (k : Int) ∧ (k : Int) ≤ n) (w : World) :
    Calls Try.prog 26 #[.int .i64 n, .int .i64 k] w (OutFewestColours w (((fewK n k : Nat) : Int)) true) := by
  have HG := Lib.hid (knGraph_yes n k (by omega) (by omega) (by omega) w)
  have HL := Lib.hid (kI_len n k (by omega))
  have HD := Lib.hid (fun va vc => fewest_any va (kI n k).length vc n k (by omega) (by omega))
  clear h
  go_enter Try.func26, Try.ntmps26
  go_wp2_with fail
  refine HG.out.mono ?_
  rintro e w1 ⟨v, rfl, ho, hb1⟩
  obtain ⟨va, vc, -, rfl, -, hrd⟩ := oi_shape (oi_new ho)
  have hz := hb1.size
  have HR := Lib.hid hrd
  clear hrd ho
  go_wp2_with fail
  refine (HD.out va vc _).mono ?_
  rintro e w2 ⟨rfl, hb2⟩
  go_wp2_with fail
  go_returns
  exact ⟨rfl, bnext (balloc hb1 _) hb2⟩
theorem law_FewestColours (w : World) (n : Int) (_ : (Lit.int .i64 n).wf = true) (k : Int) (_ : (Lit.int .i64 k).wf = true) :
    Calls Try.prog 7 #[.int .i64 n, .int .i64 k] w fun e w' => e = .returned (.bool true) ∧ Below w.heap.size w w' := by
  by_cases h : 1 ≤ n ∧ n ≤ 8 ∧ 1 ≤ k ∧ k ≤ n
  · obtain ⟨n', rfl⟩ := Int.eq_ofNat_of_zero_le (show 0 ≤ n by omega)
    obtain ⟨k', rfl⟩ := Int.eq_ofNat_of_zero_le (show 0 ≤ k by omega)
    exact lawOf_FewestColours n' k' w (((fewK n' k' : Nat) : Int)) true (fun w' => specFewestColours_yes n' k' h w') (fun w' => implFewestColours_yes n' k' h w')
  · exact lawOf_FewestColours n k w 0 false (fun w' => specFewestColours_no n k h w') (fun w' => implFewestColours_no n k h w')
end Go.Proofs.Ytfhohmahckjpeaa
