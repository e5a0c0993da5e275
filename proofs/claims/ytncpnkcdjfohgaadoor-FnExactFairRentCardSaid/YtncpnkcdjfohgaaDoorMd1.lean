import Derived.RegionTactic
import Derived.Test.YtncpnkcdjfohgaaDoorMc3
namespace Go.Proofs.YtncpnkcdjfohgaaDoor
open Go.RowKit
set_option maxRecDepth 4000
/-- All shares, one after the other. -/
def shn (q : Nat) : Int := ([0, 1, 2, 0, 2, 1, 1, 0, 2, 1, 2, 0, 2, 0, 1, 2, 1, 0] : List Int).getD q 0
def shL (k : Nat) : List Int := [shn (3 * k), shn (3 * k + 1), shn (3 * k + 2)]
/-- What somebody has. -/
def shS (k p : Nat) : Nat := (shn (3 * k + p)).toNat
theorem shn_bd : ∀ q, q < 18 → 0 ≤ shn q ∧ shn q ≤ 2 := by decide
theorem shS_eq (k p : Nat) (hk : k < 6) (hp : p < 3) : shn (3 * k + p) = (shS k p : Nat) := by
  have := shn_bd (3 * k + p) (by omega)
  unfold shS; omega
theorem shS_lt (k p : Nat) (hk : k < 6) (hp : p < 3) : shS k p < 3 := by
  have := shn_bd (3 * k + p) (by omega)
  unfold shS; omega
theorem shL_at (k p : Nat) (hp : p < 3) : (shL k).getD p 0 = shn (3 * k + p) := by
  rcases (by omega : p = 0 ∨ p = 1 ∨ p = 2) with rfl | rfl | rfl <;> rfl
/-- A list that is shares. -/
def shB (xs : List Int) : Bool := (List.range 6).any fun k => decide (xs = shL k)
theorem shB_yes {xs : List Int} (h : shB xs = true) : ∃ k, k < 6 ∧ xs = shL k := by
  simp only [shB, List.any_eq_true, List.mem_range, decide_eq_true_eq] at h
  exact h
theorem shB_no {xs : List Int} (h : shB xs = false) (k : Nat) (hk : k < 6) : xs ≠ shL k := by
  intro e
  have : shB xs = true := by
    simp only [shB, List.any_eq_true, List.mem_range, decide_eq_true_eq]
    exact ⟨k, hk, e⟩
  rw [h] at this; cases this
theorem shL_inj : ∀ k, k < 6 → ∀ j, j < 6 → shL k = shL j → k = j := by decide
theorem shB_len (xs : List Int) (h : xs.length ≠ 3) : shB xs = false := by
  rw [Bool.eq_false_iff]
  intro hh
  obtain ⟨k, -, e⟩ := shB_yes hh
  exact h (by rw [e]; rfl)
def sh3 (a b c : Int) : Bool := decide (0 ≤ a ∧ a ≤ 2) && decide (0 ≤ b ∧ b ≤ 2) && decide (0 ≤ c ∧ c ≤ 2) && decide (a ≠ b) && decide (a ≠ c) && decide (b ≠ c)
theorem shB_three (a b c : Int) : shB [a, b, c] = sh3 a b c := by
  rw [Bool.eq_iff_iff]
  constructor
  · intro h
    obtain ⟨k, hk, e⟩ := shB_yes h
    simp only [shL, List.cons.injEq, and_true] at e
    obtain ⟨rfl, rfl, rfl⟩ := e
    have H : ∀ k, k < 6 → sh3 (shn (3 * k)) (shn (3 * k + 1)) (shn (3 * k + 2)) = true := by decide
    exact H k hk
  · intro h
    simp only [sh3, Bool.and_eq_true, decide_eq_true_eq] at h
    obtain ⟨⟨⟨⟨⟨ha, hb⟩, hc⟩, h1⟩, h2⟩, h3⟩ := h
    rcases (by omega : a = 0 ∨ a = 1 ∨ a = 2) with rfl | rfl | rfl <;> rcases (by omega : b = 0 ∨ b = 1 ∨ b = 2) with rfl | rfl | rfl <;> rcases (by omega : c = 0 ∨ c = 1 ∨ c = 2) with rfl | rfl | rfl <;> first | rfl | omega
set_option maxHeartbeats 1600000 in
theorem ckShares_len (xs : List Int) (a : Option Addr) (cap : Nat) (w : World) (_hm : xs.length ≤ maxLen) (h : xs.length ≠ 3) :
    Calls Tryd.prog 66 #[.slice a xs.length cap] w fun e w' => e = .returned (.bool false) ∧ Same w w' := by
  have hne : ((xs.length : Int) == 3) = false := by simp; omega
  clear h
  go_enter Tryd.func66, Tryd.ntmps66
  go_wp2_with fail
  go_quiet (fail)
  go_wp2
  go_ret
  exact ⟨rfl, (Same.refl _).drewN _⟩
theorem allB_three (a b c : Int) : allB 0 2 [a, b, c] = (decide (0 ≤ a ∧ a ≤ 2) && (decide (0 ≤ b ∧ b ≤ 2) && decide (0 ≤ c ∧ c ≤ 2))) := by
  simp only [allB, List.all_cons, List.all_nil, Bool.and_true]
set_option maxHeartbeats 6400000 in
theorem ckShares_three (x y z : Int) (a : Option Addr) (b off cap : Nat) (w : World) (h : Rd w a b off [x, y, z]) :
    Calls Tryd.prog 66 #[.slice a 3 cap] w fun e w' => e = .returned (.bool (shB [x, y, z])) ∧ Same w w' := by
  obtain ⟨rfl, c0⟩ := h.2 0 (by simp)
  have c1 := (h.2 1 (by simp)).2
  have c2 := (h.2 2 (by simp)).2
  rw [Nat.add_zero] at c0
  have HL : Hid (∀ m, Calls Tryd.prog 80 #[.slice (some ⟨b, off, none⟩) 3 cap, .int .i64 0, .int .i64 2] (w.drewN m) fun e w' => e = .returned (.bool (allB 0 2 [x, y, z])) ∧ w.drewN m = w') := Lib.hid (fun m => l1All_any [x, y, z] (some ⟨b, off, none⟩) b off 3 cap 0 2 (w.drewN m) rfl (h.drewN m))
  have d0 : ([x, y, z] : List Int).getD 0 0 = x := rfl
  have d1 : ([x, y, z] : List Int).getD 1 0 = y := rfl
  have d2 : ([x, y, z] : List Int).getD 2 0 = z := rfl
  rw [d0] at c0
  rw [d1] at c1
  rw [d2] at c2
  have HV : Hid (shB [x, y, z] = sh3 x y z) := Lib.hid (shB_three x y z)
  have HA : Hid (allB 0 2 [x, y, z] = (decide (0 ≤ x ∧ x ≤ 2) && (decide (0 ≤ y ∧ y ≤ 2) && decide (0 ≤ z ∧ z ≤ 2)))) := Lib.hid (allB_three x y z)
  clear h d0 d1 d2
  by_cases hA : allB 0 2 [x, y, z] = true
  · rw [hA] at HL
    have HS : Hid (sh3 x y z = (decide (x ≠ y) && decide (x ≠ z) && decide (y ≠ z))) := Lib.hid (by
      have h := HA.out
      rw [hA] at h
      simp only [Bool.true_eq, Bool.and_eq_true, decide_eq_true_eq] at h
      obtain ⟨h1, h2, h3⟩ := h
      simp only [sh3, decide_eq_true h1, decide_eq_true h2, decide_eq_true h3, Bool.true_and])
    clear hA HA
    by_cases h1 : x = y
    · have hne : (x != y) = false := by simp [h1]
      have HF : Hid (shB [x, y, z] = false) := Lib.hid (by rw [HV.out, HS.out]; simp [h1])
      clear h1 HS HV
      go_enter Tryd.func66, Tryd.ntmps66
      go_wp2_with fail
      go_quiet (first | (go_at_call 80; exact Calls.quiet_of_same (flip (HL.out _))))
      go_wp2
      go_ret
      exact ⟨ret_bool HF.out.symm, (Same.refl _).drewN _⟩
    · have hne : (x != y) = true := by simp [h1]
      by_cases h2 : x = z
      · have hne2 : (x != z) = false := by simp [h2]
        have HF : Hid (shB [x, y, z] = false) := Lib.hid (by rw [HV.out, HS.out]; simp [h2])
        clear h1 h2 HS HV
        go_enter Tryd.func66, Tryd.ntmps66
        go_wp2_with fail
        go_quiet (first | (go_at_call 80; exact Calls.quiet_of_same (flip (HL.out _))))
        go_wp2
        go_ret
        exact ⟨ret_bool HF.out.symm, (Same.refl _).drewN _⟩
      · have hne2 : (x != z) = true := by simp [h2]
        have HF : Hid (shB [x, y, z] = (y != z)) := Lib.hid (by rw [HV.out, HS.out]; by_cases h3 : y = z <;> simp [h1, h2, h3])
        clear h1 h2 HS HV
        go_enter Tryd.func66, Tryd.ntmps66
        go_wp2_with fail
        go_quiet (first | (go_at_call 80; exact Calls.quiet_of_same (flip (HL.out _))))
        go_wp2
        go_ret
        exact ⟨ret_bool HF.out.symm, (Same.refl _).drewN _⟩
  · have hF : allB 0 2 [x, y, z] = false := by simpa using hA
    rw [hF] at HL
    have HF : Hid (shB [x, y, z] = false) := Lib.hid (by
      rw [HV.out]
      have h := HA.out
      rw [hF] at h
      rw [Bool.eq_false_iff]
      intro hh
      simp only [sh3, Bool.and_eq_true, decide_eq_true_eq] at hh
      obtain ⟨⟨⟨⟨⟨g1, g2⟩, g3⟩, -⟩, -⟩, -⟩ := hh
      simp [g1, g2, g3] at h)
    clear hA hF HA HV
    go_enter Tryd.func66, Tryd.ntmps66
    go_wp2_with fail
    go_quiet (first | (go_at_call 80; exact Calls.quiet_of_same (flip (HL.out _))))
    go_wp2
    go_ret
    exact ⟨ret_bool HF.out.symm, (Same.refl _).drewN _⟩
theorem ckShares_any (xs : List Int) (a : Option Addr) (cap B : Nat) (w : World) (h : RdS w B a xs) :
    Calls Tryd.prog 66 #[.slice a xs.length cap] w fun e w' => e = .returned (.bool (shB xs)) ∧ Same w w' := by
  by_cases hl : xs.length = 3
  · obtain ⟨b, off, hr, -⟩ := h
    match xs, hl with
    | [x, y, z], _ => exact ckShares_three x y z a b off cap w hr
  · rw [shB_len xs hl]
    exact ckShares_len xs a cap w (rds_max h) hl
end Go.Proofs.YtncpnkcdjfohgaaDoor
