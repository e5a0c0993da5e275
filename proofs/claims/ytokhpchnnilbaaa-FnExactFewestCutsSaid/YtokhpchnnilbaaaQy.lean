import Derived.Test.YtokhpchnnilbaaaZk
namespace Go.Proofs.Ytokhpchnnilbaaa
open Go.RowKit
set_option maxRecDepth 4000
/-- Whether a number is in a list. -/
def haB (xs : List Int) (v : Int) : Bool := decide (v ∈ xs)
theorem haB_step (xs : List Int) (v : Int) (k : Nat) (hk : k < xs.length) (h : haB (xs.take k) v = false) :
    (((xs.getD k 0 == v) = true → haB xs v = true) ∧ ((xs.getD k 0 == v) = false → haB (xs.take (k + 1)) v = false)) := by
  have e : xs.take (k + 1) = xs.take k ++ [xs.getD k 0] := by
    rw [List.take_add_one, List.getD_eq_getElem?_getD, List.getElem?_eq_getElem hk]; rfl
  refine ⟨fun hx => ?_, fun hx => ?_⟩
  · simp only [beq_iff_eq] at hx
    simp only [haB, decide_eq_true_eq]
    rw [← hx, List.getD_eq_getElem?_getD, List.getElem?_eq_getElem hk]
    exact List.getElem_mem hk
  · simp only [haB, decide_eq_false_iff_not, e, List.mem_append, List.mem_singleton] at h ⊢
    simp only [beq_eq_false_iff_ne] at hx
    exact fun hh => hh.elim h (fun hh => hx hh.symm)
set_option maxHeartbeats 400000 in
theorem l1H_any (xs : List Int) (v : Int) (a : Option Addr) (b off n cap : Nat) (w : World) (hn : xs.length = n) (h : Rd w a b off xs) :
    Calls Try.prog 74 #[.slice a n cap, .int .i64 v] w fun e w' => e = .returned (.bool (haB xs v)) ∧ w = w' := by
  subst hn
  obtain ⟨hm, hc⟩ := h
  unfold maxLen at hm
  have HC := Lib.hid hc
  clear hc
  go_enter Try.func74, Try.ntmps74
  go_wp2
  go_loop [9] (fun v9 => ∃ k : Nat, k ≤ xs.length ∧ v9 = .int .i64 k ∧ Hid (haB (xs.take k) v = false)) (fun v9 => xs.length - (intOf v9).toNat)
  case atStart => exact ⟨0, Nat.zero_le _, rfl, Lib.hid (by simp [haB])⟩
  case round =>
    obtain ⟨k, hk, rfl, hf⟩ := hrel
    by_cases hlt : k < xs.length
    · obtain ⟨ha, c⟩ := HC.out k hlt
      subst ha
      have HS := Lib.hid (haB_step xs v k hlt hf.out)
      have hi : (k : Int) < (xs.length : Int) := by omega
      generalize xs.getD k 0 = x at c HS
      cases hx : (x == v)
      · have H2 := Lib.hid (HS.out.2 hx)
        go_wp2
        go_round
        case rel => exact ⟨k + 1, by omega, by go_num, H2⟩
        case measure => simp [intOf]; omega
      · have H2 := Lib.hid (HS.out.1 hx)
        go_wp2
        go_ret
        exact ⟨by rw [H2.out]; rfl, rfl⟩
    · have H2 : Hid (haB xs v = false) := by
        have := hf.out
        rwa [show k = xs.length by omega, List.take_length] at this
      go_wp2
      go_ret
      exact ⟨by rw [H2.out]; rfl, rfl⟩
set_option maxHeartbeats 400000 in
theorem sIx_any (xs : List Int) (v : Int) (a : Option Addr) (b off n cap : Nat) (w : World) (hn : xs.length = n) (h : Rd w a b off xs) :
    Calls Try.prog 83 #[.slice a n cap, .int .i64 v] w fun e w' => (∃ r : Int, e = .returned (.int .i64 r) ∧ decide (0 ≤ r) = haB xs v) ∧ w = w' := by
  subst hn
  obtain ⟨hm, hc⟩ := h
  unfold maxLen at hm
  have HC := Lib.hid hc
  clear hc
  go_enter Try.func83, Try.ntmps83
  go_wp2
  go_loop [8] (fun v8 => ∃ k : Nat, k ≤ xs.length ∧ v8 = .int .i64 k ∧ Hid (haB (xs.take k) v = false)) (fun v8 => xs.length - (intOf v8).toNat)
  case atStart => exact ⟨0, Nat.zero_le _, rfl, Lib.hid (by simp [haB])⟩
  case round =>
    obtain ⟨k, hk, rfl, hf⟩ := hrel
    by_cases hlt : k < xs.length
    · obtain ⟨ha, c⟩ := HC.out k hlt
      subst ha
      have HS := Lib.hid (haB_step xs v k hlt hf.out)
      have hi : (k : Int) < (xs.length : Int) := by omega
      generalize xs.getD k 0 = x at c HS
      cases hx : (v == x)
      · have H2 := Lib.hid (HS.out.2 ((BEq.comm (a := x) (b := v)).trans hx))
        go_wp2
        go_round
        case rel => exact ⟨k + 1, by omega, by go_num, H2⟩
        case measure => simp [intOf]; omega
      · have H2 := Lib.hid (HS.out.1 ((BEq.comm (a := x) (b := v)).trans hx))
        go_wp2
        go_ret
        exact ⟨⟨_, rfl, by rw [H2.out]; simp⟩, rfl⟩
    · have H2 : Hid (haB xs v = false) := by
        have := hf.out
        rwa [show k = xs.length by omega, List.take_length] at this
      go_wp2
      go_ret
      exact ⟨⟨_, rfl, by rw [H2.out]; rfl⟩, rfl⟩
set_option maxHeartbeats 400000 in
theorem sCo_any (xs : List Int) (v : Int) (a : Option Addr) (b off n cap : Nat) (w : World) (hn : xs.length = n) (h : Rd w a b off xs) :
    Calls Try.prog 75 #[.slice a n cap, .int .i64 v] w fun e w' => e = .returned (.bool (haB xs v)) ∧ w = w' := by
  go_enter Try.func75, Try.ntmps75
  go_wp2_with fail
  refine (sIx_any xs v a b off n cap _ hn h).mono ?_
  rintro e w1 ⟨⟨r, rfl, hr⟩, rfl⟩
  have HR := Lib.hid hr
  clear hr
  go_wp2_with fail
  go_ret
  exact ⟨by rw [← HR.out]; rfl, rfl⟩
end Go.Proofs.Ytokhpchnnilbaaa
