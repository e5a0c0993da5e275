import Derived.LoopN
import Derived.BigRegion
import Derived.BigQuiet
import Derived.Test.YtlkgmnmnlfaopaaQ6
namespace Go.Proofs.Ytlkgmnmnlfaopaa
open Go.RowKit
set_option maxRecDepth 4000
set_option maxHeartbeats 1600000 in
theorem arePays_any (rs : List (List Int)) (a : Option Addr) (cap B : Nat) (w : World) (h : RdSS w B a rs) :
    Calls Try.prog 54 #[.slice a rs.length cap] w fun e w' => e = .returned (.bool (gB rs)) ∧ w = w' := by
  obtain ⟨hm, b, off, hc⟩ := h
  unfold maxLen at hm
  have HC := Lib.hid hc
  by_cases hl : 1 ≤ rs.length ∧ rs.length ≤ 3
  · obtain ⟨ha, -, ra0, rc0, c0, hr0⟩ := hc 0 (by omega)
    subst ha
    have hm0 := rd_len hr0
    unfold maxLen at hm0
    rw [Nat.add_zero] at c0
    have hli : 1 ≤ (rs.length : Int) ∧ (rs.length : Int) ≤ 3 := by omega
    have HLI := Lib.hid (isCount_yes rs.length hli)
    obtain ⟨n0, hn0⟩ : ∃ n0, n0 = (rs.getD 0 []).length := ⟨_, rfl⟩
    rw [← hn0] at c0 hm0
    by_cases h0 : 1 ≤ n0 ∧ n0 ≤ 3
    · have HL0 := Lib.hid (isCount_yes n0 (by omega))
      have HNO : Hid (∀ k, k < rs.length → rowB n0 (rs.getD k []) = false → gB rs = false) := Lib.hid (by rw [hn0]; exact gB_row_no rs)
      have HYES : Hid ((∀ k, k < rs.length → rowB n0 (rs.getD k []) = true) → gB rs = true) := Lib.hid (by rw [hn0] at h0 ⊢; exact gB_mk rs hl.1 hl.2 h0.1 h0.2)
      have hl2 : rs.length ≤ 3 := hl.2
      have hn1 : 1 ≤ n0 := h0.1
      clear hc hr0 hn0
      go_enter Try.func54, Try.ntmps54
      go_wp2_with fail
      refine (HLI.out _).mono ?_
      rintro e w' ⟨rfl, rfl⟩
      go_wp2_with fail
      refine (HL0.out _).mono ?_
      rintro e w' ⟨rfl, rfl⟩
      go_wp2_with fail
      go_loop [19] (fun v19 => ∃ k : Nat, k ≤ rs.length ∧ v19 = .int .i64 k ∧ ∀ j, j < k → rowB n0 (rs.getD j []) = true) (fun v19 => rs.length - (intOf v19).toNat)
      case atStart => exact ⟨0, by omega, rfl, by omega⟩
      case round =>
        obtain ⟨k, hk, rfl, hall⟩ := hrel
        have HA := Lib.hid hall
        clear hall
        by_cases hlt : k < rs.length
        · obtain ⟨-, -, ra, rc, ck, hr⟩ := HC.out k hlt
          have hki : (k : Int) < (rs.length : Int) := by omega
          have HNk := Lib.hid (HNO.out k hlt)
          have HX : Hid (rowB n0 (rs.getD k []) = true → ∀ j, j < k + 1 → rowB n0 (rs.getD j []) = true) := Lib.hid (fun hx j hj => by
            by_cases e : j = k
            · rw [e]; exact hx
            · exact HA.out j (by omega))
          have hmk := rd_len hr
          unfold maxLen at hmk
          have HRB : Hid (rowB n0 (rs.getD k []) = (decide ((rs.getD k []).length = n0) && allB (-9) 9 (rs.getD k []))) := Lib.hid rfl
          generalize rs.getD k [] = r at *
          by_cases hn : r.length = n0
          · have hne : ((r.length : Int) != (n0 : Int)) = false := by simp; omega
            have hrp : 0 < r.length := by omega
            have HMI : Hid (∀ w', w = w' → Calls Try.prog 98 #[.slice ra r.length rc] w' fun e w'' => e = .returned (.int .i64 (mnK r (r.length - 1))) ∧ w' = w'') := Lib.hid (fun w' e => by subst e; obtain ⟨b1, o1, hr1, -⟩ := hr; exact sMin_any r ra b1 o1 rc _ hr1 hrp)
            have HMX : Hid (∀ w', w = w' → Calls Try.prog 99 #[.slice ra r.length rc] w' fun e w'' => e = .returned (.int .i64 (mxK r (r.length - 1))) ∧ w' = w'') := Lib.hid (fun w' e => by subst e; obtain ⟨b1, o1, hr1, -⟩ := hr; exact sMax_any r ra b1 o1 rc _ hr1 hrp)
            have HMM := Lib.hid (allB_mm (-9) 9 r hrp)
            clear hr hrp
            generalize mnK r (r.length - 1) = mi at *
            generalize mxK r (r.length - 1) = ma at *
            by_cases h9 : mi < -9
            · have HF : Hid (gB rs = false) := Lib.hid (HNk.out (by rw [HRB.out, ← HMM.out, decide_eq_false (show ¬ -9 ≤ mi by omega)]; simp))
              clear hn
              go_wp2_with fail
              refine (HMI.out _ rfl).mono ?_
              rintro e w' ⟨rfl, rfl⟩
              go_wp2_with fail
              go_ret
              exact ⟨ret_bool HF.out.symm, rfl⟩
            · by_cases h99 : 9 < ma
              · have HF : Hid (gB rs = false) := Lib.hid (HNk.out (by rw [HRB.out, ← HMM.out, decide_eq_false (show ¬ ma ≤ 9 by omega)]; simp))
                clear hn
                go_wp2_with fail
                refine (HMI.out _ rfl).mono ?_
                rintro e w' ⟨rfl, rfl⟩
                go_wp2_with fail
                refine (HMX.out _ rfl).mono ?_
                rintro e w' ⟨rfl, rfl⟩
                go_wp2_with fail
                go_ret
                exact ⟨ret_bool HF.out.symm, rfl⟩
              · have HT := Lib.hid (HX.out (by rw [HRB.out, ← HMM.out, decide_eq_true (show -9 ≤ mi by omega), decide_eq_true (show ma ≤ 9 by omega)]; simp [hn]))
                clear hn
                go_wp2_with fail
                refine (HMI.out _ rfl).mono ?_
                rintro e w' ⟨rfl, rfl⟩
                go_wp2_with fail
                refine (HMX.out _ rfl).mono ?_
                rintro e w' ⟨rfl, rfl⟩
                go_wp2_with fail
                go_round
                case rel => exact ⟨k + 1, by omega, by go_num, HT.out⟩
                case measure => simp [intOf]; omega
          · have hne : ((r.length : Int) != (n0 : Int)) = true := by simp; omega
            have HF : Hid (gB rs = false) := Lib.hid (HNk.out (by rw [HRB.out]; simp [hn]))
            clear hn
            go_wp2_with fail
            go_ret
            exact ⟨ret_bool HF.out.symm, rfl⟩
        · have HT := Lib.hid (HYES.out (fun j hj => HA.out j (by omega)))
          go_wp2_with fail
          go_ret
          exact ⟨ret_bool HT.out.symm, rfl⟩
    · have HL0 := Lib.hid (isCount_no n0 (by omega))
      have HF : Hid (gB rs = false) := Lib.hid (gB_row0_no rs (by rw [← hn0]; exact h0))
      have hl2 : rs.length ≤ 3 := hl.2
      clear hc hr0 hn0 h0
      go_enter Try.func54, Try.ntmps54
      go_wp2_with fail
      refine (HLI.out _).mono ?_
      rintro e w' ⟨rfl, rfl⟩
      go_wp2_with fail
      refine (HL0.out _).mono ?_
      rintro e w' ⟨rfl, rfl⟩
      go_wp2_with fail
      go_ret
      exact ⟨ret_bool HF.out.symm, rfl⟩
  · have HLI := Lib.hid (isCount_no rs.length (by omega))
    have HF : Hid (gB rs = false) := Lib.hid (gB_len_no rs hl)
    clear hc hl
    go_enter Try.func54, Try.ntmps54
    go_wp2_with fail
    refine (HLI.out _).mono ?_
    rintro e w' ⟨rfl, rfl⟩
    go_wp2_with fail
    go_ret
    exact ⟨ret_bool HF.out.symm, rfl⟩
end Go.Proofs.Ytlkgmnmnlfaopaa
