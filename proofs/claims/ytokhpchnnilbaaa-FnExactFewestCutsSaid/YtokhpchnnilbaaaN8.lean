import Derived.Test.YtokhpchnnilbaaaN7
namespace Go.Proofs.Ytokhpchnnilbaaa
open Go.RowKit
set_option maxRecDepth 4000
/-- The cut before index i, or nought. -/
def laC (cuts : List Int) : Nat → Int
  | 0 => 0
  | i + 1 => cuts.getD i 0
def okD (m : Nat) (cuts : List Int) (i : Nat) : Bool := decide (laC cuts i < cuts.getD i 0) && decide (cuts.getD i 0 < (m : Int))
def cutsB (m : Nat) (cuts : List Int) : Bool := (List.range cuts.length).all (okD m cuts)
theorem cutsB_no (m : Nat) (cuts : List Int) (i : Nat) (hi : i < cuts.length) (h : okD m cuts i = false) : cutsB m cuts = false := by
  simp only [cutsB, List.all_eq_false, List.mem_range]
  exact ⟨i, hi, by simp [h]⟩
theorem cutsB_yes (m : Nat) (cuts : List Int) (h : ∀ i, i < cuts.length → okD m cuts i = true) : cutsB m cuts = true := by
  simp only [cutsB, List.all_eq_true, List.mem_range]
  exact h
theorem laC_pos (m : Nat) (cuts : List Int) (i : Nat) (h : ∀ j, j < i → okD m cuts j = true) : 0 ≤ laC cuts i := by
  induction i with
  | zero => exact Int.le_refl _
  | succ i ih =>
    have h1 := ih (fun j hj => h j (by omega))
    have h2 := h i (by omega)
    simp only [okD, Bool.and_eq_true, decide_eq_true_eq] at h2
    simp only [laC]; omega
set_option maxHeartbeats 3200000 in
theorem areCuts_any (s : ByteArray) (cuts : List Int) (a : Option Addr) (cap B : Nat) (w : World) (h : RdS w B a cuts) :
    Calls Try.prog 73 #[.string s, .slice a cuts.length cap] w fun e w' => e = .returned (.bool (cutsB s.size cuts)) ∧ w = w' := by
  obtain ⟨b, off, ⟨hm, hc⟩, -⟩ := h
  unfold maxLen at hm
  have HC := Lib.hid hc
  have HNO := Lib.hid (cutsB_no s.size cuts)
  have HYES := Lib.hid (cutsB_yes s.size cuts)
  have HL : Hid (∀ i, laC cuts (i + 1) = cuts.getD i 0) := Lib.hid (fun i => rfl)
  have HL0 : Hid (laC cuts 0 = 0) := Lib.hid rfl
  have HO : Hid (∀ i, okD s.size cuts i = (decide (laC cuts i < cuts.getD i 0) && decide (cuts.getD i 0 < (s.size : Int)))) := Lib.hid (fun i => rfl)
  clear hc
  generalize hn : cuts.length = n at *
  clear hn
  generalize laC cuts = La at *
  generalize okD s.size cuts = Ok at *
  go_enter Try.func73, Try.ntmps73
  go_wp2_with fail
  go_loop [5, 10] (fun v5 v10 => ∃ i : Nat, i ≤ n ∧ v10 = .int .i64 i ∧ v5 = .int .i64 (La i) ∧ ∀ j, j < i → Ok j = true) (fun _ v10 => n - (intOf v10).toNat)
  case atStart => exact ⟨0, by omega, rfl, by rw [HL0.out], by omega⟩
  case round =>
    obtain ⟨i, hi, rfl, rfl, hall⟩ := hrel
    have HA := Lib.hid hall
    clear hall
    by_cases hlt : i < n
    · have hii : (i : Int) < (n : Int) := by omega
      obtain ⟨rfl, c1⟩ := HC.out i hlt
      have HOi := Lib.hid (HO.out i)
      have HLi := Lib.hid (HL.out i)
      have HN := Lib.hid (HNO.out i hlt)
      have HT : Hid (Ok i = true → ∀ j, j < i + 1 → Ok j = true) := Lib.hid (fun hx j hj => by
        by_cases e : j = i
        · rw [e]; exact hx
        · exact HA.out j (by omega))
      generalize cuts.getD i 0 = c at *
      by_cases h1 : c ≤ La i
      · have HX := Lib.hid (HN.out (by rw [HOi.out]; simp; omega))
        go_wp2_with fail
        go_ret
        exact ⟨ret_bool HX.out.symm, rfl⟩
      · have h1' : ¬ c ≤ La i := h1
        by_cases h2 : (s.size : Int) ≤ c
        · have HX := Lib.hid (HN.out (by rw [HOi.out]; simp; omega))
          go_wp2_with fail
          go_ret
          exact ⟨ret_bool HX.out.symm, rfl⟩
        · have HX := Lib.hid (HT.out (by rw [HOi.out]; simp; omega))
          go_wp2_with fail
          go_round
          case rel => exact ⟨i + 1, by omega, by go_num, by rw [HLi.out], HX.out⟩
          case measure => simp [intOf]; omega
    · have HX := Lib.hid (HYES.out (fun j hj => HA.out j (by omega)))
      have hii : ¬ (i : Int) < (n : Int) := by omega
      go_wp2_with fail
      go_ret
      exact ⟨ret_bool HX.out.symm, rfl⟩
set_option maxHeartbeats 3200000 in
theorem rising_any (m : Nat) (_ : m ≤ 1000) (cuts : List Int) (a : Option Addr) (cap B : Nat) (w : World) (h : RdS w B a cuts) :
    Calls Try.prog 72 #[.slice a cuts.length cap, .int .i64 1, .int .i64 ((m : Int) - 1)] w fun e w' => e = .returned (.bool (cutsB m cuts)) ∧ Same w w' := by
  obtain ⟨b, off, ⟨hm, hc⟩, -⟩ := h
  unfold maxLen at hm
  have HC := Lib.hid hc
  have HNO := Lib.hid (cutsB_no m cuts)
  have HYES := Lib.hid (cutsB_yes m cuts)
  have HL : Hid (∀ i, laC cuts (i + 1) = cuts.getD i 0) := Lib.hid (fun i => rfl)
  have HL0 : Hid (laC cuts 0 = 0) := Lib.hid rfl
  have HO : Hid (∀ i, okD m cuts i = (decide (laC cuts i < cuts.getD i 0) && decide (cuts.getD i 0 < (m : Int)))) := Lib.hid (fun i => rfl)
  have HP := Lib.hid (laC_pos m cuts)
  clear hc
  generalize hn : cuts.length = n at *
  clear hn
  generalize laC cuts = La at *
  generalize okD m cuts = Ok at *
  go_enter Try.func72, Try.ntmps72
  go_wp2_with fail
  go_loopw [11] (fun v11 wr => ∃ i : Nat, i ≤ n ∧ v11 = .int .i64 i ∧ (∀ j, j < i → Ok j = true) ∧ Same w wr) (fun v11 _ => n - (intOf v11).toNat)
  case atStart => exact ⟨0, by omega, rfl, by omega, Same.refl _⟩
  case round =>
    obtain ⟨i, hi, rfl, hall, hsm⟩ := hrel
    obtain ⟨wq, hwq⟩ : ∃ wq : World, wq = wr := ⟨_, rfl⟩
    subst hwq
    have HA := Lib.hid hall
    clear hall
    by_cases hlt : i < n
    · have hii : (i : Int) < (n : Int) := by omega
      obtain ⟨rfl, c1⟩ := HC.out i hlt
      replace c1 := (hsm.cell _).trans c1
      have HOi := Lib.hid (HO.out i)
      have hp := HP.out i HA.out
      have HN := Lib.hid (HNO.out i hlt)
      have HT : Hid (Ok i = true → ∀ j, j < i + 1 → Ok j = true) := Lib.hid (fun hx j hj => by
        by_cases e : j = i
        · rw [e]; exact hx
        · exact HA.out j (by omega))
      by_cases hin : 1 ≤ cuts.getD i 0 ∧ cuts.getD i 0 ≤ (m : Int) - 1
      · have HI := Lib.hid (l1In_yes (cuts.getD i 0) 1 ((m : Int) - 1) hin)
        by_cases hi0 : i = 0
        · subst hi0
          have hl0 := HL0.out
          have HX := Lib.hid (HT.out (by rw [HOi.out]; simp only [Bool.and_eq_true, decide_eq_true_eq]; omega))
          clear hl0 hp
          rw [Nat.add_zero] at c1
          generalize cuts.getD 0 0 = c at *
          go_wp2_with fail
          refine (HI.out _).mono ?_
          rintro e w2 ⟨rfl, rfl⟩
          go_wp2_with fail
          go_roundw
          case rel => exact ⟨1, by omega, by go_num, HX.out, hsm⟩
          case measure => simp [intOf]; omega
        · obtain ⟨p, rfl⟩ : ∃ p, i = p + 1 := ⟨i - 1, by omega⟩
          obtain ⟨-, c2⟩ := HC.out p (by omega)
          replace c2 := (hsm.cell _).trans c2
          have hlp := HL.out p
          rw [hlp] at HOi
          have hp0 : (0 : Int) < ((p + 1 : Nat) : Int) := by omega
          have hpe : ((p + 1 : Nat) : Int) - 1 = (p : Int) := by omega
          have hpw : wrap64 (((p + 1 : Nat) : Int) - 1) = (p : Int) := by rw [hpe]; exact IntWalk.wrap64_in _ ⟨by omega, by omega⟩
          have hpn : (p : Int) < (n : Int) := by omega
          clear hlp hp
          by_cases hlt2 : cuts.getD p 0 < cuts.getD (p + 1) 0
          · have HX := Lib.hid (HT.out (by rw [HOi.out]; simp only [Bool.and_eq_true, decide_eq_true_eq]; omega))
            have hge : ¬ cuts.getD (p + 1) 0 ≤ cuts.getD p 0 := by omega
            generalize cuts.getD (p + 1) 0 = c at *
            generalize cuts.getD p 0 = c' at *
            go_wp2_with fail
            refine (HI.out _).mono ?_
            rintro e w2 ⟨rfl, rfl⟩
            go_wp2_with fail
            go_roundw
            case rel => exact ⟨p + 1 + 1, by omega, by go_num, HX.out, hsm⟩
            case measure => simp [intOf]; omega
          · have HX := Lib.hid (HN.out (by rw [HOi.out]; simp only [Bool.and_eq_false_iff, decide_eq_false_iff_not]; omega))
            have hge : cuts.getD (p + 1) 0 ≤ cuts.getD p 0 := by omega
            generalize cuts.getD (p + 1) 0 = c at *
            generalize cuts.getD p 0 = c' at *
            go_wp2_with fail
            refine (HI.out _).mono ?_
            rintro e w2 ⟨rfl, rfl⟩
            go_wp2_with fail
            go_ret
            exact ⟨ret_bool HX.out.symm, hsm⟩
      · have HI := Lib.hid (l1In_no (cuts.getD i 0) 1 ((m : Int) - 1) hin)
        have HX := Lib.hid (HN.out (by rw [HOi.out]; simp only [Bool.and_eq_false_iff, decide_eq_false_iff_not]; omega))
        generalize cuts.getD i 0 = c at *
        go_wp2_with fail
        refine (HI.out _).mono ?_
        rintro e w2 ⟨rfl, rfl⟩
        go_wp2_with fail
        go_ret
        exact ⟨ret_bool HX.out.symm, hsm⟩
    · have HX := Lib.hid (HYES.out (fun j hj => HA.out j (by omega)))
      have hii : ¬ (i : Int) < (n : Int) := by omega
      go_wp2_with fail
      go_ret
      exact ⟨ret_bool HX.out.symm, hsm⟩
end Go.Proofs.Ytokhpchnnilbaaa
