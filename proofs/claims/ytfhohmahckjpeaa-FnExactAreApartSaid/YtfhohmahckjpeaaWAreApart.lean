import Derived.Test.YtfhohmahckjpeaaK6
namespace Go.Proofs.Ytfhohmahckjpeaa
open Go.RowKit
set_option maxRecDepth 4000
def OutAreApart (w : World) (r0 : Bool) (r1 : Bool) (e : Ending) (w' : World) : Prop := e = .returned (.tuple #[.bool r0, .bool r1]) ∧ Below w.heap.size w w'
set_option maxHeartbeats 3200000 in
theorem lawOf_AreApart (a : Int) (b : Int) (w : World) (r0 : Bool) (r1 : Bool)
    (hs : ∀  (w' : World), Calls Try.prog 21 #[.int .i64 a, .int .i64 b] w' (OutAreApart w' r0 r1))
    (hi : ∀  (w' : World), Calls Try.prog 22 #[.int .i64 a, .int .i64 b] w' (OutAreApart w' r0 r1)) :
    Calls Try.prog 5 #[.int .i64 a, .int .i64 b] w fun e w' => e = .returned (.bool true) ∧ Below w.heap.size w w' := by
  have HS := Lib.hid hs
  have HI := Lib.hid hi
  clear hs hi
  have hne0 : (r0 != r0) = false := by simp
  have hne1 : (r1 != r1) = false := by simp
  have hB0 : Below w.heap.size w w := Below.refl _ _
  go_enter Try.func5, Try.ntmps5
  go_wp2_with fail
  refine (HS.out  _  ).mono ?_
  rintro e w1 ⟨rfl, hb⟩
  have hc := chg_below hb
  clear hb
  have z1 := hc.size
  replace hB0 := below_chg hB0 hc (by omega) (by omega)
  clear hc
  go_wp2_with fail
  refine (HI.out  _  ).mono ?_
  rintro e w2 ⟨rfl, hb⟩
  have hc := chg_below hb
  clear hb
  have z2 := hc.size
  replace hB0 := below_chg hB0 hc (by omega) (by omega)
  clear hc
  go_wp2_with fail
  go_ret
  exact ⟨rfl, hB0⟩
def apB (a b : Int) : Bool := decide (0 ≤ a ∧ a ≤ 255 ∧ 0 ≤ b ∧ b ≤ 255)
set_option maxHeartbeats 400000 in
theorem specAreApart_no (a b : Int) (h : ¬ (0 ≤ a ∧ a ≤ 255 ∧ 0 ≤ b ∧ b ≤ 255)) (w : World) :
    Calls Try.prog 21 #[.int .i64 a, .int .i64 b] w (OutAreApart w false false) := by
  by_cases ha : 0 ≤ a ∧ a ≤ 255
  · have HA := Lib.hid (l1In_yes a 0 255 ha)
    have HB := Lib.hid (l1In_no b 0 255 (by omega))
    clear h ha
    go_enter Try.func21, Try.ntmps21
    go_wp2_with fail
    refine (HA.out _).mono ?_
    rintro e w' ⟨rfl, rfl⟩
    go_wp2_with fail
    refine (HB.out _).mono ?_
    rintro e w' ⟨rfl, rfl⟩
    go_wp2_with fail
    go_returns
    exact ⟨rfl, Below.refl _ _⟩
  · have HA := Lib.hid (l1In_no a 0 255 ha)
    clear h ha
    go_enter Try.func21, Try.ntmps21
    go_wp2_with fail
    refine (HA.out _).mono ?_
    rintro e w' ⟨rfl, rfl⟩
    go_wp2_with fail
    go_returns
    exact ⟨rfl, Below.refl _ _⟩
set_option maxHeartbeats 400000 in
theorem specAreApart_yes (a b : Nat) (ha : a < 256) (hb : b < 256) (w : World) :
    Calls Try.prog 21 #[.int .i64 a, .int .i64 b] w (OutAreApart w (decide (a &&& b = 0)) true) := by
  have HA := Lib.hid (l1In_yes a 0 255 (by omega))
  have HB := Lib.hid (l1In_yes b 0 255 (by omega))
  have HE := Lib.hid (apart_eq a b ha hb)
  go_enter Try.func21, Try.ntmps21
  go_wp2_with fail
  refine (HA.out _).mono ?_
  rintro e w' ⟨rfl, rfl⟩
  go_wp2_with fail
  refine (HB.out _).mono ?_
  rintro e w' ⟨rfl, rfl⟩
  go_wp2_with fail
  go_returns
  exact ⟨by rw [← HE.out]; rfl, Below.refl _ _⟩
set_option maxHeartbeats 400000 in
theorem implAreApart_no (a b : Int) (h : ¬ (0 ≤ a ∧ a ≤ 255 ∧ 0 ≤ b ∧ b ≤ 255)) (w : World) :
    Calls Try.prog 22 #[.int .i64 a, .int .i64 b] w (OutAreApart w false false) := by
  by_cases hm : min a b < 0
  · have hd : decide (min a b < 0) = true := by simpa using hm
    clear h
    go_enter Try.func22, Try.ntmps22
    go_wp2_with fail
    all_goals (go_returns; exact ⟨rfl, Below.refl _ _⟩)
  · have hx : 255 < max a b := by omega
    have hd : decide (min a b < 0) = false := by simpa using hm
    have hd2 : decide (255 < max a b) = true := by simpa using hx
    clear h
    go_enter Try.func22, Try.ntmps22
    go_wp2_with fail
    all_goals (go_returns; exact ⟨rfl, Below.refl _ _⟩)
set_option maxHeartbeats 400000 in
theorem implAreApart_yes (a b : Nat) (ha : a < 256) (hb : b < 256) (w : World) :
    Calls Try.prog 22 #[.int .i64 a, .int .i64 b] w (OutAreApart w (decide (a &&& b = 0)) true) := by
  have hm : ¬ min (a : Int) (b : Int) < 0 := by omega
  have hx : ¬ 255 < max (a : Int) (b : Int) := by omega
  have hd : decide (min (a : Int) (b : Int) < 0) = false := by simpa using hm
  have hd2 : decide (255 < max (a : Int) (b : Int)) = false := by simpa using hx
  go_enter Try.func22, Try.ntmps22
  go_wp2_with fail
  all_goals
    refine (isApart_any a b ha hb _).mono ?_
    rintro e w' ⟨rfl, rfl⟩
    go_wp2_with fail
    go_returns
    exact ⟨rfl, Below.refl _ _⟩
theorem law_AreApart (w : World) (a : Int) (_ : (Lit.int .i64 a).wf = true) (b : Int) (_ : (Lit.int .i64 b).wf = true) :
    Calls Try.prog 5 #[.int .i64 a, .int .i64 b] w fun e w' => e = .returned (.bool true) ∧ Below w.heap.size w w' := by
  by_cases h : 0 ≤ a ∧ a ≤ 255 ∧ 0 ≤ b ∧ b ≤ 255
  · obtain ⟨a', rfl⟩ := Int.eq_ofNat_of_zero_le h.1
    obtain ⟨b', rfl⟩ := Int.eq_ofNat_of_zero_le h.2.2.1
    exact lawOf_AreApart a' b' w _ true (fun w' => specAreApart_yes a' b' (by omega) (by omega) w') (fun w' => implAreApart_yes a' b' (by omega) (by omega) w')
  · exact lawOf_AreApart a b w false false (fun w' => specAreApart_no a b h w') (fun w' => implAreApart_no a b h w')
end Go.Proofs.Ytfhohmahckjpeaa
