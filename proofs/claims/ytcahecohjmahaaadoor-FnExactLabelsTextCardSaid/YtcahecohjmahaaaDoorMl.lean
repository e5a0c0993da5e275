import Derived.Test.YtcahecohjmahaaaDoorZa
import Derived.Test.YtcahecohjmahaaaDoorLab
namespace Go.Proofs.YtcahecohjmahaaaDoor
open Go.RowKit
set_option maxRecDepth 4000
/-- The list is labels for the side. -/
def labB (n : Int) (xs : List Int) : Bool := decide (1 ≤ n ∧ n ≤ 8 ∧ xs.length = Pr.cnt n.toNat ∧ allB 0 2 xs = true)
theorem labB_yes {n : Nat} {xs : List Int} (h : labB n xs = true) : 1 ≤ n ∧ n ≤ 8 ∧ xs.length = Pr.cnt n ∧ allB 0 2 xs = true := by
  simp only [labB, decide_eq_true_eq, Int.toNat_natCast] at h
  exact ⟨by omega, by omega, h.2.2⟩
theorem labB_no {n : Nat} {xs : List Int} (h1 : 1 ≤ n) (h2 : n ≤ 8) (h : labB n xs = false) : ¬ (xs.length = Pr.cnt n ∧ allB 0 2 xs = true) := by
  simp only [labB, decide_eq_false_iff_not, Int.toNat_natCast] at h
  exact fun hh => h ⟨by omega, by omega, hh⟩
set_option maxHeartbeats 800000 in
theorem meLabels_any (n : Int) (xs : List Int) (a : Option Addr) (b off len cap : Nat) (w : World) (hn : xs.length = len) (h : Rd w a b off xs) :
    Calls Tryd.prog 77 #[.int .i64 n, .slice a len cap] w fun e w' => e = .returned (.bool (labB n xs)) ∧ w = w' := by
  by_cases hs : 1 ≤ n ∧ n ≤ 8
  · obtain ⟨h1, h2⟩ := hs
    obtain ⟨n, rfl⟩ := Int.eq_ofNat_of_zero_le (show 0 ≤ n by omega)
    have hc := (Pr.cnt_le n (by omega)).1
    by_cases hl : len = Pr.cnt n
    · have hq : ((len : Int) == (Pr.cnt n : Nat)) = true := by rw [hl]; simp
      have hres : labB n xs = allB 0 2 xs := by
        rw [Bool.eq_iff_iff]; simp only [labB, decide_eq_true_eq, Int.toNat_natCast]
        exact ⟨fun h => h.2.2.2, fun h => ⟨h1, h2, by rw [hn, hl], h⟩⟩
      rw [hres]
      have HA := Lib.hid (l1All_any xs a b off len cap 0 2 w hn h)
      clear h hl hres hn
      go_enter Tryd.func77, Tryd.ntmps77
      go_wp2_with fail
      refine (meSide_yes n (by omega) (by omega) _).mono ?_
      rintro e w' ⟨rfl, rfl⟩
      go_wp2_with fail
      refine (meCount_any n (by omega) _).mono ?_
      rintro e w' ⟨rfl, rfl⟩
      go_wp2_with fail
      refine HA.out.mono ?_
      rintro e w' ⟨rfl, rfl⟩
      go_wp2_with fail
      go_ret
      exact ⟨rfl, rfl⟩
    · have hq : ((len : Int) == (Pr.cnt n : Nat)) = false := by simp; omega
      have hres : labB n xs = false := by
        simp only [labB, decide_eq_false_iff_not, Int.toNat_natCast]
        exact fun h => hl (by rw [← hn]; exact h.2.2.1)
      rw [hres]
      clear h hl hres hn
      go_enter Tryd.func77, Tryd.ntmps77
      go_wp2_with fail
      refine (meSide_yes n (by omega) (by omega) _).mono ?_
      rintro e w' ⟨rfl, rfl⟩
      go_wp2_with fail
      refine (meCount_any n (by omega) _).mono ?_
      rintro e w' ⟨rfl, rfl⟩
      go_wp2_with fail
      go_ret
      exact ⟨rfl, rfl⟩
  · have hres : labB n xs = false := by
      simp only [labB, decide_eq_false_iff_not]
      exact fun h => hs ⟨h.1, h.2.1⟩
    rw [hres]
    have HS := Lib.hid hs
    clear h hs hres
    go_enter Tryd.func77, Tryd.ntmps77
    go_wp2_with fail
    refine (meSide_no n HS.out _).mono ?_
    rintro e w' ⟨rfl, rfl⟩
    go_wp2_with fail
    go_ret
    exact ⟨rfl, rfl⟩
end Go.Proofs.YtcahecohjmahaaaDoor
