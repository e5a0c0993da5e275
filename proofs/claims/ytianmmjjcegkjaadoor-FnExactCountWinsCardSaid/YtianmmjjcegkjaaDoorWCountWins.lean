import Derived.Test.YtianmmjjcegkjaaDoorJ7
import Derived.Test.YtianmmjjcegkjaaDoorZk
namespace Go.Proofs.YtianmmjjcegkjaaDoor
open Go.RowKit
set_option maxRecDepth 4000
theorem HxV_later {w w' : World} (h : HxV w) (hb : Below w.heap.size w w') : HxV w' := hxv_later h hb
def OutCountWins (w : World) (r0 : Int) (r1 : Bool) (e : Ending) (w' : World) : Prop := e = .returned (.tuple #[.int .i64 r0, .bool r1]) ∧ Below w.heap.size w w'
set_option maxHeartbeats 3200000 in
theorem lawOf_CountWins (n : Int) (m : Int) (p : Int) (w : World) (hvar : HxV w) (r0 : Int) (r1 : Bool)
    (hs : ∀  (w' : World), Calls Tryd.prog 4 #[.int .i64 n, .int .i64 m, .int .i64 p] w' (OutCountWins w' r0 r1))
    (hi : ∀  (w' : World), HxV w' → Calls Tryd.prog 5 #[.int .i64 n, .int .i64 m, .int .i64 p] w' (OutCountWins w' r0 r1)) :
    Calls Tryd.prog 3 #[.int .i64 n, .int .i64 m, .int .i64 p] w fun e w' => e = .returned (.bool true) ∧ Below w.heap.size w w' := by
  have HS := Lib.hid hs
  have HI := Lib.hid hi
  clear hs hi
  have HV := Lib.hid hvar
  clear hvar
  have hne0 : (r0 != r0) = false := by simp
  have hne1 : (r1 != r1) = false := by simp
  have hB0 : Below w.heap.size w w := Below.refl _ _
  go_enter Tryd.func3, Tryd.ntmps3
  go_wp2_with fail
  refine (HS.out  _  ).mono ?_
  rintro e w1 ⟨rfl, hb⟩
  have hc := chg_below hb
  clear hb
  have z1 := hc.size
  replace hB0 := below_chg hB0 hc (by omega) (by omega)
  clear hc
  go_wp2_with fail
  refine (HI.out  _  (HxV_later HV.out hB0) ).mono ?_
  rintro e w2 ⟨rfl, hb⟩
  have hc := chg_below hb
  clear hb
  have z2 := hc.size
  replace hB0 := below_chg hB0 hc (by omega) (by omega)
  clear hc
  go_wp2_with fail
  go_ret
  exact ⟨rfl, hB0⟩
set_option maxHeartbeats 800000 in
theorem specCW_no (n m p : Int) (h : ¬ (sidesB n m = true ∧ n * m ≤ 9 ∧ (p = 1 ∨ p = 2))) (w : World) :
    Calls Tryd.prog 4 #[.int .i64 n, .int .i64 m, .int .i64 p] w (OutCountWins w 0 false) := by
  have HS := Lib.hid (hxSides_any n m w)
  have HP := Lib.hid (fun w => hxPlayer_any p w)
  cases hs : sidesB n m
  · rw [hs] at HS
    clear h hs
    go_enter Tryd.func4, Tryd.ntmps4
    go_wp2_with fail
    refine HS.out.mono ?_
    rintro e w1 ⟨rfl, rfl⟩
    go_wp2_with fail
    go_ret2
    exact ⟨rfl, Below.refl _ _⟩
  · rw [hs] at HS
    obtain ⟨n, m, s, rfl, rfl, hnm, h30, h1, h2, hpr⟩ := sidesB_yes hs
    rw [hpr] at h
    have hpw : wrap64 ((n : Int) * (m : Int)) = (s : Int) := by rw [hpr, IntWalk.wrap64_in _ ⟨by omega, by omega⟩]
    have HW := Lib.hid hpr
    by_cases h9 : (s : Int) > 9
    · clear h hs hnm hpr
      go_enter Tryd.func4, Tryd.ntmps4
      go_wp2_with fail
      refine HS.out.mono ?_
      rintro e w1 ⟨rfl, rfl⟩
      go_wp2_with fail
      go_ret2
      exact ⟨rfl, Below.refl _ _⟩
    · have hq : (p == 1 || p == 2) = false := by
        cases hq : (p == 1 || p == 2)
        · rfl
        · exact absurd ⟨hs, by omega, by simpa using hq⟩ h
      rw [hq] at HP
      clear h hs hnm hpr hq
      go_enter Tryd.func4, Tryd.ntmps4
      go_wp2_with fail
      refine HS.out.mono ?_
      rintro e w1 ⟨rfl, rfl⟩
      go_wp2_with fail
      refine (HP.out _).mono ?_
      rintro e w1 ⟨rfl, rfl⟩
      go_wp2_with fail
      go_ret2
      exact ⟨rfl, Below.refl _ _⟩
set_option maxHeartbeats 800000 in
theorem implCW_no (n m p : Int) (h : ¬ (sidesB n m = true ∧ n * m ≤ 9 ∧ (p = 1 ∨ p = 2))) (w : World) :
    Calls Tryd.prog 5 #[.int .i64 n, .int .i64 m, .int .i64 p] w (OutCountWins w 0 false) := by
  have HP := Lib.hid (fun w => isPlayer_any p w)
  cases hs : sidesB n m
  · have HG := Lib.hid (gridOf_no n m hs w)
    clear h hs
    go_enter Tryd.func5, Tryd.ntmps5
    go_wp2_with fail
    refine HG.out.mono ?_
    rintro e w1 ⟨rfl, hb1⟩
    go_wp2_with fail
    go_ret2
    exact ⟨rfl, balloc hb1 _⟩
  · obtain ⟨n, m, s, rfl, rfl, hnm, h30, h1, h2, hpr⟩ := sidesB_yes hs
    rw [hpr] at h
    have HG := Lib.hid (gridOf_yes n m s h1 h2 hnm h30 w)
    have HZ := Lib.hid (fun w => gridSize_any n m s hnm h30 w)
    cases hq : (p == 1 || p == 2)
    · rw [hq] at HP
      clear h hs hnm hpr hq
      go_enter Tryd.func5, Tryd.ntmps5
      go_wp2_with fail
      refine HG.out.mono ?_
      rintro e w1 ⟨rfl, hb1⟩
      have hba := balloc hb1 (.cells #[.int .i64 n, .int .i64 m] 30)
      go_wp2_with fail
      generalize w1.alloc (.cells #[.int .i64 n, .int .i64 m] 30) = w2 at hba ⊢
      (try go_wp2_with fail)
      refine (HP.out _).mono ?_
      rintro e w3 ⟨rfl, rfl⟩
      go_wp2_with fail
      go_ret2
      exact ⟨rfl, hba⟩
    · have hp : p = 1 ∨ p = 2 := by simpa using hq
      have h9 : (s : Int) > 9 := by
        by_cases e : (s : Int) > 9
        · exact e
        · exact absurd ⟨hs, by omega, hp⟩ h
      rw [hq] at HP
      clear h hs hnm hpr hq hp
      go_enter Tryd.func5, Tryd.ntmps5
      go_wp2_with fail
      refine HG.out.mono ?_
      rintro e w1 ⟨rfl, hb1⟩
      have hba := balloc hb1 (.cells #[.int .i64 n, .int .i64 m] 30)
      have hg1 := heap_alloc_new w1 (.cells #[.int .i64 n, .int .i64 m] 30)
      go_wp2_with fail
      generalize w1.alloc (.cells #[.int .i64 n, .int .i64 m] 30) = w2 at hba hg1 ⊢
      have m0 : w2.cell? ⟨w1.heap.size, 0, none⟩ = some (.int .i64 n) := blk_cell hg1 0 _ rfl
      have m1 : w2.cell? ⟨w1.heap.size, 1, none⟩ = some (.int .i64 m) := blk_cell hg1 1 _ rfl
      (try go_wp2_with fail)
      refine (HP.out _).mono ?_
      rintro e w3 ⟨rfl, rfl⟩
      go_wp2_with fail
      refine (HZ.out _).mono ?_
      rintro e w3 ⟨rfl, hb3⟩
      have hB3 := bnext hba hb3
      clear m0 m1 hba hb3 hb1 hg1
      go_wp2_with fail
      go_ret2
      exact ⟨rfl, hB3⟩
theorem law_CountWins (w : World) (n : Int) (_ : (Lit.int .i64 n).wf = true) (m : Int) (_ : (Lit.int .i64 m).wf = true) (p : Int) (_ : (Lit.int .i64 p).wf = true) (hv : HxV w) :
    Calls Tryd.prog 3 #[.int .i64 n, .int .i64 m, .int .i64 p] w fun e w' => e = .returned (.bool true) ∧ Below w.heap.size w w' := by
  by_cases h : sidesB n m = true ∧ n * m ≤ 9 ∧ (p = 1 ∨ p = 2)
  · obtain ⟨hs, h9, hp⟩ := h
    have hs' := hs
    obtain ⟨n', m', s, rfl, rfl, hnm, h30, h1, h2, hpr⟩ := sidesB_yes hs'
    have h9' : s ≤ 9 := by omega
    exact lawOf_CountWins n' m' p w hv _ _ (fun w' => specCW_yes n' m' s p hp h1 h2 hnm h9' hs w') (fun w' hv' => implCW_yes n' m' s p hp h1 h2 hnm h9' w' hv')
  · exact lawOf_CountWins n m p w hv 0 false (fun w' => specCW_no n m p h w') (fun w' _ => implCW_no n m p h w')
end Go.Proofs.YtianmmjjcegkjaaDoor
