import Derived.Test.YtokhpchnnilbaaaN6
namespace Go.Proofs.Ytokhpchnnilbaaa
open Go.RowKit
set_option maxRecDepth 4000
set_option maxHeartbeats 800000 in
theorem hasWin_any (s : ByteArray) (st l : Int) (w : World) :
    Calls Try.prog 68 #[.string s, .int .i64 st, .int .i64 l] w fun e w' => e = .returned (.bool (decide (0 ≤ st ∧ st < (s.size : Int) ∧ 0 ≤ l ∧ l ≤ (s.size : Int)))) ∧ w = w' := by
  by_cases h1 : 0 ≤ st
  · by_cases h2 : st < (s.size : Int)
    · by_cases h3 : 0 ≤ l
      · by_cases h4 : l ≤ (s.size : Int)
        · have HV : Hid (decide (0 ≤ st ∧ st < (s.size : Int) ∧ 0 ≤ l ∧ l ≤ (s.size : Int)) = true) := Lib.hid (by simp [h1, h2, h3, h4])
          rw [HV.out]
          go_enter Try.func68, Try.ntmps68
          go_wp2_with fail
          go_ret
          exact ⟨rfl, rfl⟩
        · have HV : Hid (decide (0 ≤ st ∧ st < (s.size : Int) ∧ 0 ≤ l ∧ l ≤ (s.size : Int)) = false) := Lib.hid (by simp only [decide_eq_false_iff_not]; omega)
          rw [HV.out]
          go_enter Try.func68, Try.ntmps68
          go_wp2_with fail
          go_ret
          exact ⟨ret_bool (by simp; try omega), rfl⟩
      · have HV : Hid (decide (0 ≤ st ∧ st < (s.size : Int) ∧ 0 ≤ l ∧ l ≤ (s.size : Int)) = false) := Lib.hid (by simp only [decide_eq_false_iff_not]; omega)
        rw [HV.out]
        go_enter Try.func68, Try.ntmps68
        go_wp2_with fail
        go_ret
        exact ⟨rfl, rfl⟩
    · have HV : Hid (decide (0 ≤ st ∧ st < (s.size : Int) ∧ 0 ≤ l ∧ l ≤ (s.size : Int)) = false) := Lib.hid (by simp only [decide_eq_false_iff_not]; omega)
      rw [HV.out]
      go_enter Try.func68, Try.ntmps68
      go_wp2_with fail
      go_ret
      exact ⟨rfl, rfl⟩
  · have HV : Hid (decide (0 ≤ st ∧ st < (s.size : Int) ∧ 0 ≤ l ∧ l ≤ (s.size : Int)) = false) := Lib.hid (by simp only [decide_eq_false_iff_not]; omega)
    rw [HV.out]
    go_enter Try.func68, Try.ntmps68
    go_wp2_with fail
    go_ret
    exact ⟨rfl, rfl⟩
set_option maxHeartbeats 800000 in
theorem window_any (s : ByteArray) (h16 : s.size ≤ 16) (st l : Nat) (hst : st < s.size) (hl : l ≤ s.size) (w : World) :
    Calls Try.prog 69 #[.string s, .int .i64 st, .int .i64 l] w fun e w' => e = .returned (.string ((s ++ s).extract st (st + l))) ∧ w = w' := by
  have e2 : wrap64 ((st : Int) + (l : Int)) = (st : Int) + (l : Int) := IntWalk.wrap64_in _ ⟨by omega, by omega⟩
  go_enter Try.func69, Try.ntmps69
  go_wp2_with fail
  go_ret
  exact ⟨rfl, rfl⟩
theorem win_list (s : ByteArray) (st l : Nat) : ((s ++ s).extract st (st + l)).data.toList = ((s.data.toList ++ s.data.toList).drop st).take l := by
  simp only [ByteArray.data_extract, Array.toList_extract, ByteArray.data_append, Array.toList_append, List.extract_eq_take_drop]
  rw [Nat.add_sub_cancel_left]
theorem size_list (s : ByteArray) : s.size = s.data.toList.length := by obtain ⟨⟨l⟩⟩ := s; rfl
theorem getD_mod (l : List UInt8) (st i n m : Nat) (hn : l.length = n) (hst : st < n) (hi : i < m) (hm : m ≤ n) : (((l ++ l).drop st).take m).getD i 0 = l.getD ((st + i) % n) 0 := by
  rw [List.getD_eq_getElem?_getD, List.getD_eq_getElem?_getD, List.getElem?_take_of_lt hi, List.getElem?_drop]
  by_cases h : st + i < n
  · rw [List.getElem?_append_left (by omega), Nat.mod_eq_of_lt h]
  · rw [List.getElem?_append_right (by omega), hn]
    have : (st + i) % n = st + i - n := by rw [Nat.mod_eq_sub_mod (by omega), Nat.mod_eq_of_lt (by omega)]
    rw [this]
/-- The window of l beads from st on, as a text. -/
def winT (s : ByteArray) (st l : Nat) : ByteArray := (s ++ s).extract st (st + l)
theorem win_size (s : ByteArray) (st l : Nat) (hst : st < s.size) (hl : l ≤ s.size) : (winT s st l).size = l := by
  rw [size_list, winT, win_list, List.length_take, List.length_drop, List.length_append, ← size_list]
  omega
theorem win_byt (s : ByteArray) (st l i : Nat) (hst : st < s.size) (hl : l ≤ s.size) (hi : i < l) : byt (winT s st l) i = byt s ((st + i) % s.size) := by
  unfold byt winT
  rw [win_list, getD_mod _ st i s.size l (size_list s).symm hst hi hl]
theorem win_good (s : ByteArray) (hg : goodS s = true) (st l : Nat) (hst : st < s.size) (hl : l ≤ s.size) : goodS (winT s st l) = true := by
  obtain ⟨h16, hb⟩ := goodS_at hg
  have hs := win_size s st l hst hl
  refine goodS_yes _ (by omega) (fun i hi => ?_)
  rw [okB_iff, win_byt s st l i hst hl (by omega)]
  exact hb _ (Nat.mod_lt _ (by omega))
/-- How many of the first m beads from st on are of kind k. -/
def wcnt (s : ByteArray) (st : Nat) : Nat → Nat → Nat
  | 0, _ => 0
  | m + 1, k => wcnt s st m k + if kd s ((st + m) % s.size) = k then 1 else 0
theorem wcnt_cnt (s : ByteArray) (st l : Nat) (hst : st < s.size) (hl : l ≤ s.size) (k : Nat) : ∀ m, m ≤ l → cnt (winT s st l) m k = wcnt s st m k
  | 0, _ => rfl
  | m + 1, h => by
    have ih := wcnt_cnt s st l hst hl k m (by omega)
    have e : kd (winT s st l) m = kd s ((st + m) % s.size) := by unfold kd; rw [win_byt s st l m hst hl (by omega)]
    simp only [cnt, wcnt, ih, e]
theorem wcnt_le (s : ByteArray) (st m k : Nat) : wcnt s st m k ≤ m := by
  induction m with
  | zero => exact Nat.le_refl _
  | succ m ih => simp only [wcnt]; split <;> omega
theorem wcnt_set (s : ByteArray) (st m k : Nat) (hk : k = kd s ((st + m) % s.size)) (h4 : k < 4) : (cL (wcnt s st m)).set k ((wcnt s st m k : Int) + 1) = cL (wcnt s st (m + 1)) := by
  rw [cL_set _ _ h4]
  congr 1
  funext j
  simp only [wcnt, ← hk]
end Go.Proofs.Ytokhpchnnilbaaa
