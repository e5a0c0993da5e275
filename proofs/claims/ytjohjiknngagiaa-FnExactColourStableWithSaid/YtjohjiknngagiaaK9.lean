import Derived.Test.YtjohjiknngagiaaK8
namespace Go.Proofs.Ytjohjiknngagiaa
open Go.RowKit
set_option maxRecDepth 4000
/-- Item i and the next one are not both in the set. -/
def stF (n s i : Nat) : Bool := !(decide ((i + 1) % n ≠ i) && s.testBit i && s.testBit ((i + 1) % n))
theorem stb_no (n s i : Nat) (h : stF n s i = false) (hi : i < n) : stb n s = false := by
  simp only [stb, List.all_eq_false, List.mem_range]
  exact ⟨i, hi, by simpa [stF] using h⟩
theorem stb_yes (n s : Nat) (h : ∀ i, i < n → stF n s i = true) : stb n s = true := by
  simp only [stb, List.all_eq_true, List.mem_range]
  intro i hi
  exact h i hi
set_option maxHeartbeats 1600000 in
theorem isStable_any (s n : Nat) (hs : s < 256) (hn : n ≤ 8) (w : World) :
    Calls Try.prog 64 #[.int .i64 s, .int .i64 n] w fun e w' => e = .returned (.bool (stb n s)) ∧ w = w' := by
  have HNO := Lib.hid (stb_no n s)
  have HYES := Lib.hid (stb_yes n s)
  go_enter Try.func64, Try.ntmps64
  go_wp2_with fail
  go_loop [8] (fun v8 => ∃ i : Nat, i ≤ n ∧ v8 = .int .i64 i ∧ ∀ j, j < i → stF n s j = true) (fun v8 => n - (intOf v8).toNat)
  case atStart => exact ⟨0, by omega, rfl, by omega⟩
  case round =>
    obtain ⟨i, hi, rfl, hall⟩ := hrel
    have HA := Lib.hid hall
    clear hall
    by_cases hlt : i < n
    · have hii : (i : Int) < (n : Int) := by omega
      obtain ⟨m, hm⟩ : ∃ m, m = (i + 1) % n := ⟨_, rfl⟩
      have hmn : m < n := by rw [hm]; exact Nat.mod_lt _ (by omega)
      have hmi : ((i : Int) + 1) % (n : Int) = (m : Int) := by rw [hm]; push_cast; rfl
      have hmw : wrap64 (((i : Int) + 1) % (n : Int)) = (m : Int) := by rw [hmi]; exact IntWalk.wrap64_in _ ⟨by omega, by omega⟩
      have hmt : ((i : Int) + 1).tmod (n : Int) = (m : Int) := by rw [Int.tmod_eq_emod_of_nonneg (by omega)]; exact hmi
      have HF : Hid (stF n s i = !(decide (m ≠ i) && s.testBit i && s.testBit m)) := Lib.hid (by rw [hm]; rfl)
      have hn0 : ¬ (n : Int) = 0 := by omega
      have HT : Hid (stF n s i = true → ∀ j, j < i + 1 → stF n s j = true) := Lib.hid (fun hx j hj => by
        by_cases e : j = i
        · rw [e]; exact hx
        · exact HA.out j (by omega))
      have HN := Lib.hid (fun hx => HNO.out i hx hlt)
      have H1 := Lib.hid (hasB_any s i hs (by omega))
      have H2 := Lib.hid (hasB_any s m hs (by omega))
      clear hm
      by_cases hne : m = i
      · have hb : ((m : Int) != (i : Int)) = false := by simp [hne]
        have HX := Lib.hid (HT.out (by rw [HF.out]; simp [hne]))
        clear hne
        go_wp2_with fail
        go_round
        case rel => exact ⟨i + 1, by omega, by go_num, HX.out⟩
        case measure => simp [intOf]; omega
      · have hb : ((m : Int) != (i : Int)) = true := by simp; omega
        have hd : Hid (decide (m ≠ i) = true) := Lib.hid (by simpa using hne)
        clear hne
        cases t1 : s.testBit i
        · rw [t1] at H1
          have HX := Lib.hid (HT.out (by rw [HF.out, t1]; simp))
          clear t1
          go_wp2_with fail
          refine (H1.out _).mono ?_
          rintro e w' ⟨rfl, rfl⟩
          go_wp2_with fail
          go_round
          case rel => exact ⟨i + 1, by omega, by go_num, HX.out⟩
          case measure => simp [intOf]; omega
        · rw [t1] at H1
          cases t2 : s.testBit m
          · rw [t2] at H2
            have HX := Lib.hid (HT.out (by rw [HF.out, t2]; simp))
            clear t1 t2
            go_wp2_with fail
            refine (H1.out _).mono ?_
            rintro e w' ⟨rfl, rfl⟩
            go_wp2_with fail
            refine (H2.out _).mono ?_
            rintro e w' ⟨rfl, rfl⟩
            go_wp2_with fail
            go_round
            case rel => exact ⟨i + 1, by omega, by go_num, HX.out⟩
            case measure => simp [intOf]; omega
          · rw [t2] at H2
            have HX := Lib.hid (HN.out (by rw [HF.out, t1, t2, hd.out]; rfl))
            clear t1 t2
            go_wp2_with fail
            refine (H1.out _).mono ?_
            rintro e w' ⟨rfl, rfl⟩
            go_wp2_with fail
            refine (H2.out _).mono ?_
            rintro e w' ⟨rfl, rfl⟩
            go_wp2_with fail
            go_ret
            exact ⟨ret_bool HX.out.symm, rfl⟩
    · have HX := Lib.hid (HYES.out (fun j hj => HA.out j (by omega)))
      go_wp2_with fail
      go_ret
      exact ⟨ret_bool HX.out.symm, rfl⟩
end Go.Proofs.Ytjohjiknngagiaa
