import Derived.LoopN
import Derived.BigRegion
import Derived.Test.YtelchpdlfedleaaS18
import Derived.Test.YtelchpdlfedleaaUs
namespace Go.Proofs.Ytelchpdlfedleaa
open Go.RowKit
set_option maxRecDepth 4000
/-- What three areas tell: 1 or -1 if all are greater or less than 0, 0 if one is greater and one is less, else 2. -/
def hasV (a b c : Int) : Int := if 0 < a ∧ 0 < b ∧ 0 < c then 1 else if a < 0 ∧ b < 0 ∧ c < 0 then -1 else if (a < 0 ∨ b < 0 ∨ c < 0) ∧ (0 < a ∨ 0 < b ∨ 0 < c) then 0 else 2
def ls6 (a b : Int) : Int := if a < b then a else b
set_option maxHeartbeats 400000 in
theorem l1Least6 (a b : Int) (w : World) :
    Calls Try.prog 135 #[.int .i64 a, .int .i64 b] w fun e w' => e = .returned (.int .i64 (ls6 a b)) ∧ w = w' := by
  by_cases h : a < b
  · have H : Hid (ls6 a b = a) := Lib.hid (if_pos h)
    go_enter Try.func135, Try.ntmps135
    go_wp2_with fail
    go_ret
    exact ⟨by rw [H.out]; rfl, rfl⟩
  · have H : Hid (ls6 a b = b) := Lib.hid (if_neg h)
    go_enter Try.func135, Try.ntmps135
    go_wp2_with fail
    go_ret
    exact ⟨by rw [H.out]; rfl, rfl⟩
/-- 1, 0 or -1. -/
def clI (x : Int) : Int := ls6 1 (mostI (-1) x)
def mosV (a b c : Int) : Int := mostI (mostI (mostI (-1) (clI a)) (clI b)) (clI c)
def leaV (a b c : Int) : Int := ls6 (ls6 (ls6 1 (clI a)) (clI b)) (clI c)
theorem clI_eq (x : Int) : clI x = if 0 < x then 1 else if x < 0 then -1 else 0 := by
  unfold clI ls6 mostI
  split <;> split <;> (try split) <;> (try split) <;> omega
theorem mosV_eq (a b c : Int) : mosV a b c = if 0 < a ∨ 0 < b ∨ 0 < c then 1 else if a < 0 ∧ b < 0 ∧ c < 0 then -1 else 0 := by
  unfold mosV
  rw [clI_eq, clI_eq, clI_eq]
  unfold mostI
  by_cases a1 : 0 < a <;> by_cases a2 : a < 0 <;> by_cases b1 : 0 < b <;> by_cases b2 : b < 0 <;> by_cases c1 : 0 < c <;> by_cases c2 : c < 0 <;> simp [a1, a2, b1, b2, c1, c2] <;> omega
theorem leaV_eq (a b c : Int) : leaV a b c = if a < 0 ∨ b < 0 ∨ c < 0 then -1 else if 0 < a ∧ 0 < b ∧ 0 < c then 1 else 0 := by
  unfold leaV
  rw [clI_eq, clI_eq, clI_eq]
  unfold ls6
  by_cases a1 : 0 < a <;> by_cases a2 : a < 0 <;> by_cases b1 : 0 < b <;> by_cases b2 : b < 0 <;> by_cases c1 : 0 < c <;> by_cases c2 : c < 0 <;> simp [a1, a2, b1, b2, c1, c2] <;> omega
set_option maxHeartbeats 1600000 in
theorem fxHas_any (x y z : Int) (b cap : Nat) (w : World) (hr : Rd w (some ⟨b, 0, none⟩) b 0 [x, y, z]) :
    Calls Try.prog 112 #[.slice (some ⟨b, 0, none⟩) 3 cap] w fun e w' => e = .returned (.int .i64 (hasV x y z)) ∧ w = w' := by
  have c0 := (hr.2 0 (by simp)).2
  have c1 := (hr.2 1 (by simp)).2
  have c2 := (hr.2 2 (by simp)).2
  have HM : Hid (mosV x y z = mostI (mostI (mostI (-1) (clI x)) (clI y)) (clI z)) := Lib.hid rfl
  have HL : Hid (leaV x y z = ls6 (ls6 (ls6 1 (clI x)) (clI y)) (clI z)) := Lib.hid rfl
  have HC : Hid (∀ u, ls6 1 (mostI (-1) u) = clI u) := Lib.hid (fun u => rfl)
  have HV : Hid (hasV x y z = if leaV x y z = 1 then 1 else if mosV x y z = -1 then -1 else if leaV x y z = -1 ∧ mosV x y z = 1 then 0 else 2) := Lib.hid (by
    rw [leaV_eq, mosV_eq]
    unfold hasV
    by_cases a1 : 0 < x <;> by_cases a2 : x < 0 <;> by_cases b1 : 0 < y <;> by_cases b2 : y < 0 <;> by_cases c1 : 0 < z <;> by_cases c2 : z < 0 <;> simp [a1, a2, b1, b2, c1, c2] <;> omega)
  clear hr
  go_enter Try.func112, Try.ntmps112
  go_wp2_with fail
  refine wp_loop_rounds 4 ?_
  rw [rounds_succ]
  go_wp2_with fail
  refine (l1Most_any (-1) x _).mono ?_
  rintro e w' ⟨rfl, rfl⟩
  go_wp2_with fail
  refine (l1Least6 1 (mostI (-1) x) _).mono ?_
  rintro e w' ⟨rfl, rfl⟩
  rw [HC.out]
  go_wp2_with fail
  refine (l1Most_any (-1) (clI x) _).mono ?_
  rintro e w' ⟨rfl, rfl⟩
  go_wp2_with fail
  refine (l1Most_any (-1) x _).mono ?_
  rintro e w' ⟨rfl, rfl⟩
  go_wp2_with fail
  refine (l1Least6 1 (mostI (-1) x) _).mono ?_
  rintro e w' ⟨rfl, rfl⟩
  rw [HC.out]
  go_wp2_with fail
  refine (l1Least6 1 (clI x) _).mono ?_
  rintro e w' ⟨rfl, rfl⟩
  generalize mostI (-1) (clI x) = m0 at *
  generalize ls6 1 (clI x) = l0 at *
  go_wp2_with fail
  rw [rounds_succ]
  go_wp2_with fail
  refine (l1Most_any (-1) y _).mono ?_
  rintro e w' ⟨rfl, rfl⟩
  go_wp2_with fail
  refine (l1Least6 1 (mostI (-1) y) _).mono ?_
  rintro e w' ⟨rfl, rfl⟩
  rw [HC.out]
  go_wp2_with fail
  refine (l1Most_any m0 (clI y) _).mono ?_
  rintro e w' ⟨rfl, rfl⟩
  go_wp2_with fail
  refine (l1Most_any (-1) y _).mono ?_
  rintro e w' ⟨rfl, rfl⟩
  go_wp2_with fail
  refine (l1Least6 1 (mostI (-1) y) _).mono ?_
  rintro e w' ⟨rfl, rfl⟩
  rw [HC.out]
  go_wp2_with fail
  refine (l1Least6 l0 (clI y) _).mono ?_
  rintro e w' ⟨rfl, rfl⟩
  generalize mostI m0 (clI y) = m1 at *
  generalize ls6 l0 (clI y) = l1 at *
  go_wp2_with fail
  rw [rounds_succ]
  go_wp2_with fail
  refine (l1Most_any (-1) z _).mono ?_
  rintro e w' ⟨rfl, rfl⟩
  go_wp2_with fail
  refine (l1Least6 1 (mostI (-1) z) _).mono ?_
  rintro e w' ⟨rfl, rfl⟩
  rw [HC.out]
  go_wp2_with fail
  refine (l1Most_any m1 (clI z) _).mono ?_
  rintro e w' ⟨rfl, rfl⟩
  go_wp2_with fail
  refine (l1Most_any (-1) z _).mono ?_
  rintro e w' ⟨rfl, rfl⟩
  go_wp2_with fail
  refine (l1Least6 1 (mostI (-1) z) _).mono ?_
  rintro e w' ⟨rfl, rfl⟩
  rw [HC.out]
  go_wp2_with fail
  refine (l1Least6 l1 (clI z) _).mono ?_
  rintro e w' ⟨rfl, rfl⟩
  generalize mostI m1 (clI z) = m2 at *
  generalize ls6 l1 (clI z) = l2 at *
  go_wp2_with fail
  rw [HM.out, HL.out] at HV
  clear HM HL HC
  rw [rounds_succ]
  by_cases d1 : l2 = 1
  · have HE : Hid (hasV x y z = 1) := Lib.hid (by rw [HV.out, if_pos d1])
    have e1 : (l2 == 1) = true := by simpa using d1
    clear d1
    go_wp2_with fail
    go_ret
    exact ⟨ret_int (by rw [HE.out]), rfl⟩
  · have e1 : (l2 == 1) = false := by simpa using d1
    by_cases d2 : m2 = -1
    · have HE : Hid (hasV x y z = -1) := Lib.hid (by rw [HV.out, if_neg d1, if_pos d2])
      have e2 : (m2 == -1) = true := by simpa using d2
      clear d1 d2
      go_wp2_with fail
      go_ret
      exact ⟨ret_int (by rw [HE.out]), rfl⟩
    · have e2 : (m2 == -1) = false := by simpa using d2
      by_cases d3 : l2 = -1
      · have e3 : (l2 == -1) = true := by simpa using d3
        by_cases d4 : m2 = 1
        · have HE : Hid (hasV x y z = 0) := Lib.hid (by rw [HV.out, if_neg d1, if_neg d2, if_pos ⟨d3, d4⟩])
          have e4 : (m2 == 1) = true := by simpa using d4
          clear d1 d2 d3 d4
          go_wp2_with fail
          go_ret
          exact ⟨ret_int (by rw [HE.out]), rfl⟩
        · have HE : Hid (hasV x y z = 2) := Lib.hid (by rw [HV.out, if_neg d1, if_neg d2, if_neg (fun h => d4 h.2)])
          have e4 : (m2 == 1) = false := by simpa using d4
          clear d1 d2 d3 d4
          go_wp2_with fail
          go_ret
          exact ⟨ret_int (by rw [HE.out]), rfl⟩
      · have e3 : (l2 == -1) = false := by simpa using d3
        have HE : Hid (hasV x y z = 2) := Lib.hid (by rw [HV.out, if_neg d1, if_neg d2, if_neg (fun h => d3 h.1)])
        clear d1 d2 d3
        go_wp2_with fail
        go_ret
        exact ⟨ret_int (by rw [HE.out]), rfl⟩
end Go.Proofs.Ytelchpdlfedleaa
