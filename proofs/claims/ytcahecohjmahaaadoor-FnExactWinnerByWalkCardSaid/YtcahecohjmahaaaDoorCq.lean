import Derived.Test.YtcahecohjmahaaaDoorZb
namespace Go.Proofs.YtcahecohjmahaaaDoor
open Go.RowKit
set_option maxRecDepth 4000
/-- Whether a number is in a list. -/
def hasB (xs : List Int) (v : Int) : Bool := decide (v ∈ xs)
theorem hasB_step (xs : List Int) (v : Int) (k : Nat) (hk : k < xs.length) (h : hasB (xs.take k) v = false) :
    (((xs.getD k 0 == v) = true → hasB xs v = true) ∧ ((xs.getD k 0 == v) = false → hasB (xs.take (k + 1)) v = false)) := by
  have e : xs.take (k + 1) = xs.take k ++ [xs.getD k 0] := by
    rw [List.take_add_one, List.getD_eq_getElem?_getD, List.getElem?_eq_getElem hk]; rfl
  refine ⟨fun hx => ?_, fun hx => ?_⟩
  · simp only [beq_iff_eq] at hx
    simp only [hasB, decide_eq_true_eq]
    rw [← hx, List.getD_eq_getElem?_getD, List.getElem?_eq_getElem hk]
    exact List.getElem_mem hk
  · simp only [hasB, decide_eq_false_iff_not, e, List.mem_append, List.mem_singleton] at h ⊢
    simp only [beq_eq_false_iff_ne] at hx
    exact fun hh => hh.elim h (fun hh => hx hh.symm)
set_option maxHeartbeats 400000 in
theorem l1Has_any (xs : List Int) (v : Int) (a : Option Addr) (b off n cap : Nat) (w : World) (hn : xs.length = n) (h : Rd w a b off xs) :
    Calls Tryd.prog 120 #[.slice a n cap, .int .i64 v] w fun e w' => e = .returned (.bool (hasB xs v)) ∧ w = w' := by
  subst hn
  obtain ⟨hm, hc⟩ := h
  unfold maxLen at hm
  have HC := Lib.hid hc
  clear hc
  go_enter Tryd.func120, Tryd.ntmps120
  go_wp2
  go_loop [9] (fun v9 => ∃ k : Nat, k ≤ xs.length ∧ v9 = .int .i64 k ∧ Hid (hasB (xs.take k) v = false)) (fun v9 => xs.length - (intOf v9).toNat)
  case atStart => exact ⟨0, Nat.zero_le _, rfl, Lib.hid (by simp [hasB])⟩
  case round =>
    obtain ⟨k, hk, rfl, hf⟩ := hrel
    by_cases hlt : k < xs.length
    · obtain ⟨ha, c⟩ := HC.out k hlt
      subst ha
      have HS := Lib.hid (hasB_step xs v k hlt hf.out)
      have hi : (k : Int) < (xs.length : Int) := by omega
      generalize xs.getD k 0 = x at c HS
      cases hx : (x == v)
      · have H2 := Lib.hid (HS.out.2 hx)
        go_wp2
        go_round
        case rel => exact ⟨k + 1, by omega, by go_num, H2⟩
        case measure => simp [intOf]; omega
      · have H2 := Lib.hid (HS.out.1 hx)
        go_wp2
        go_ret
        exact ⟨by rw [H2.out]; rfl, rfl⟩
    · have H2 : Hid (hasB xs v = false) := by
        have := hf.out
        rwa [show k = xs.length by omega, List.take_length] at this
      go_wp2
      go_ret
      exact ⟨by rw [H2.out]; rfl, rfl⟩
set_option maxHeartbeats 400000 in
theorem index_any (xs : List Int) (v : Int) (a : Option Addr) (b off n cap : Nat) (w : World) (hn : xs.length = n) (h : Rd w a b off xs) :
    Calls Tryd.prog 163 #[.slice a n cap, .int .i64 v] w fun e w' => (∃ r : Int, e = .returned (.int .i64 r) ∧ decide (0 ≤ r) = hasB xs v) ∧ w = w' := by
  subst hn
  obtain ⟨hm, hc⟩ := h
  unfold maxLen at hm
  have HC := Lib.hid hc
  clear hc
  go_enter Tryd.func163, Tryd.ntmps163
  go_wp2
  go_loop [8] (fun v8 => ∃ k : Nat, k ≤ xs.length ∧ v8 = .int .i64 k ∧ Hid (hasB (xs.take k) v = false)) (fun v8 => xs.length - (intOf v8).toNat)
  case atStart => exact ⟨0, Nat.zero_le _, rfl, Lib.hid (by simp [hasB])⟩
  case round =>
    obtain ⟨k, hk, rfl, hf⟩ := hrel
    by_cases hlt : k < xs.length
    · obtain ⟨ha, c⟩ := HC.out k hlt
      subst ha
      have HS := Lib.hid (hasB_step xs v k hlt hf.out)
      have hi : (k : Int) < (xs.length : Int) := by omega
      generalize xs.getD k 0 = x at c HS
      cases hx : (v == x)
      · have H2 := Lib.hid (HS.out.2 ((BEq.comm (a := x) (b := v)).trans hx))
        go_wp2
        go_round
        case rel => exact ⟨k + 1, by omega, by go_num, H2⟩
        case measure => simp [intOf]; omega
      · have H2 := Lib.hid (HS.out.1 ((BEq.comm (a := x) (b := v)).trans hx))
        go_wp2
        go_ret
        exact ⟨⟨_, rfl, by rw [H2.out]; simp⟩, rfl⟩
    · have H2 : Hid (hasB xs v = false) := by
        have := hf.out
        rwa [show k = xs.length by omega, List.take_length] at this
      go_wp2
      go_ret
      exact ⟨⟨_, rfl, by rw [H2.out]; rfl⟩, rfl⟩
set_option maxHeartbeats 400000 in
theorem contains_any (xs : List Int) (v : Int) (a : Option Addr) (b off n cap : Nat) (w : World) (hn : xs.length = n) (h : Rd w a b off xs) :
    Calls Tryd.prog 156 #[.slice a n cap, .int .i64 v] w fun e w' => e = .returned (.bool (hasB xs v)) ∧ w = w' := by
  go_enter Tryd.func156, Tryd.ntmps156
  go_wp2_with fail
  refine (index_any xs v a b off n cap _ hn h).mono ?_
  rintro e w1 ⟨⟨r, rfl, hr⟩, rfl⟩
  have HR := Lib.hid hr
  clear hr
  go_wp2_with fail
  go_ret
  exact ⟨by rw [← HR.out]; rfl, rfl⟩
set_option maxHeartbeats 400000 in
theorem trioHas_any (x y z v : Int) (w : World) :
    Calls Tryd.prog 166 #[.agg #[.int .i64 x, .int .i64 y, .int .i64 z], .int .i64 v] w fun e w' => e = .returned (.bool (hasB [x, y, z] v)) ∧ Below w.heap.size w w' := by
  go_enter Tryd.func166, Tryd.ntmps166
  go_wp2_with fail
  refine (contains_any [x, y, z] v _ w.heap.size 0 _ _ _ rfl ⟨by simp [maxLen], fun j hj => ⟨rfl, ?_⟩⟩).mono ?_
  · rw [cell_of_row _ _ _ _ _ (0, 0) (heap_alloc_new w _)]
    match j, hj with
    | 0, _ => rfl
    | 1, _ => rfl
    | 2, _ => rfl
    | j + 3, hj => exact absurd hj (by simp)
  · rintro e w1 ⟨rfl, rfl⟩
    go_wp2_with fail
    go_ret
    exact ⟨rfl, by go_grown⟩
end Go.Proofs.YtcahecohjmahaaaDoor
