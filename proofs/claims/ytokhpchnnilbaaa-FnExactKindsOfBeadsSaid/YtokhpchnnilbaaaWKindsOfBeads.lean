import Derived.Test.YtokhpchnnilbaaaN6
namespace Go.Proofs.Ytokhpchnnilbaaa
open Go.RowKit
set_option maxRecDepth 4000
def OutKindsOfBeads (w : World) (r0 : Int) (r1 : Bool) (e : Ending) (w' : World) : Prop := e = .returned (.tuple #[.int .i64 r0, .bool r1]) ∧ Below w.heap.size w w'
set_option maxHeartbeats 3200000 in
theorem lawOf_KindsOfBeads (s : ByteArray) (w : World) (r0 : Int) (r1 : Bool)
    (hs : ∀  (w' : World), s.size ≤ 1048576 → Calls Try.prog 17 #[.string s] w' (OutKindsOfBeads w' r0 r1))
    (hi : ∀  (w' : World), s.size ≤ 1048576 → Calls Try.prog 18 #[.string s] w' (OutKindsOfBeads w' r0 r1)) :
    Calls Try.prog 4 #[.string s] w fun e w' => e = .returned (.bool true) ∧ Below w.heap.size w w' := by
  have HS := Lib.hid hs
  have HI := Lib.hid hi
  clear hs hi
  have hne0 : (r0 != r0) = false := by simp
  have hne1 : (r1 != r1) = false := by simp
  have hB0 : Below w.heap.size w w := Below.refl _ _
  by_cases hbig_s : (1048576 : Int) < (s.size : Int)
  · go_enter Try.func4, Try.ntmps4
    go_wp2_with fail
    go_ret
    exact ⟨rfl, Below.refl _ _⟩
  have hsz_s : s.size ≤ 1048576 := by omega
  go_enter Try.func4, Try.ntmps4
  go_wp2_with fail
  refine (HS.out  _ hsz_s ).mono ?_
  rintro e w1 ⟨rfl, hb⟩
  have hc := chg_below hb
  clear hb
  have z1 := hc.size
  replace hB0 := below_chg hB0 hc (by omega) (by omega)
  clear hc
  go_wp2_with fail
  refine (HI.out  _ hsz_s ).mono ?_
  rintro e w2 ⟨rfl, hb⟩
  have hc := chg_below hb
  clear hb
  have z2 := hc.size
  replace hB0 := below_chg hB0 hc (by omega) (by omega)
  clear hc
  go_wp2_with fail
  go_ret
  exact ⟨rfl, hB0⟩
/-- How many kinds the text has, if it is a necklace. -/
def kdV (s : ByteArray) : Int := (nz (cI (gT s)) : Nat)
set_option maxHeartbeats 800000 in
theorem specKinds_any (s : ByteArray) (w : World) : Calls Try.prog 17 #[.string s] w (OutKindsOfBeads w (kdV s) (goodS s)) := by
  have HG := Lib.hid (nlGood_any s w)
  cases h : goodS s
  · have HV : Hid (kdV s = 0) := Lib.hid (by rw [kdV, gT_no h]; rfl)
    rw [h] at HG
    rw [HV.out]
    clear h
    go_enter Try.func17, Try.ntmps17
    go_wp2_with fail
    refine HG.out.mono ?_
    rintro e w' ⟨rfl, rfl⟩
    go_wp2_with fail
    go_returns
    exact ⟨rfl, Below.refl _ _⟩
  · have HK := Lib.hid (fun w => nlKinds_any s h w)
    have HV : Hid (kdV s = (nz (cI s) : Nat)) := Lib.hid (by rw [kdV, gT_yes h])
    rw [h] at HG
    rw [HV.out]
    clear h
    go_enter Try.func17, Try.ntmps17
    go_wp2_with fail
    refine HG.out.mono ?_
    rintro e w' ⟨rfl, rfl⟩
    go_wp2_with fail
    refine (HK.out _).mono ?_
    rintro e w1 ⟨rfl, hb⟩
    go_wp2_with fail
    go_returns
    exact ⟨rfl, hb⟩
set_option maxHeartbeats 800000 in
theorem implKinds_any (s : ByteArray) (w : World) : Calls Try.prog 18 #[.string s] w (OutKindsOfBeads w (kdV s) (goodS s)) := by
  have HG := Lib.hid (neckOf_any s w)
  have HB := Lib.hid (beads_any (gT s) (bLen s))
  have HV : Hid (kdV s = (nz (cI (gT s)) : Nat)) := Lib.hid rfl
  rw [HV.out]
  go_enter Try.func18, Try.ntmps18
  go_wp2_with fail
  refine HG.out.mono ?_
  rintro e w' ⟨rfl, rfl⟩
  go_wp2_with fail
  refine (HB.out _).mono ?_
  rintro e w1 ⟨rfl, ⟨D, hown, hD⟩, hb⟩
  have HD := Lib.hid hD.2.2.2
  clear hD
  go_wp2_with (first
    | (at_len; refine wpList_len_own _ rfl _ 44 rfl 5 3 Try.underlying44 _ _ _ _ rfl hown ?_)
    | fail)
  go_returns
  exact ⟨by rw [HD.out]; rfl, hb⟩
theorem law_KindsOfBeads (w : World) (s : ByteArray) (_ : s.size ≤ maxLen) :
    Calls Try.prog 4 #[.string s] w fun e w' => e = .returned (.bool true) ∧ Below w.heap.size w w' :=
  lawOf_KindsOfBeads s w (kdV s) (goodS s) (fun w' _ => specKinds_any s w') (fun w' _ => implKinds_any s w')
end Go.Proofs.Ytokhpchnnilbaaa
