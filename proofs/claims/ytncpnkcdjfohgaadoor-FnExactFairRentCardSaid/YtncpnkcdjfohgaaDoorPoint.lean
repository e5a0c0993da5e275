import Derived.Test.YtncpnkcdjfohgaaDoorZa
namespace Go.Proofs.YtncpnkcdjfohgaaDoor
open Go.RowKit
set_option maxRecDepth 4000
set_option maxHeartbeats 400000 in
theorem hasPoint_yes (n i : Nat) (h2 : n ≤ 8) (hi : i < Pr.cnt n) (w : World) :
    Calls Tryd.prog 75 #[.agg #[.int .i64 n], .int .i64 i] w fun e w' => e = .returned (.bool true) ∧ Below w.heap.size w w' := by
  have hc := (Pr.cnt_le n (by omega)).1
  go_enter Tryd.func75, Tryd.ntmps75
  go_wp2_with fail
  refine (size_any n h2 _).mono ?_
  rintro e w1 ⟨rfl, hb⟩
  have hB : Below w.heap.size w w1 := Below.trans (by go_grown) (hb.mono (by simp))
  go_wp2_with fail
  go_ret
  exact ⟨rfl, hB⟩
set_option maxHeartbeats 400000 in
theorem hasPoint_no (n : Nat) (i : Int) (h2 : n ≤ 8) (hi : ¬ (0 ≤ i ∧ i < (Pr.cnt n : Nat))) (w : World) :
    Calls Tryd.prog 75 #[.agg #[.int .i64 n], .int .i64 i] w fun e w' => e = .returned (.bool false) ∧ Below w.heap.size w w' := by
  have hc := (Pr.cnt_le n (by omega)).1
  by_cases h0 : 0 ≤ i
  · have h1 : ¬ i < (Pr.cnt n : Nat) := fun h => hi ⟨h0, h⟩
    clear hi
    go_enter Tryd.func75, Tryd.ntmps75
    go_wp2_with fail
    refine (size_any n h2 _).mono ?_
    rintro e w1 ⟨rfl, hb⟩
    have hB : Below w.heap.size w w1 := Below.trans (by go_grown) (hb.mono (by simp))
    go_wp2_with fail
    go_ret
    exact ⟨ret_bool (by simp; omega), hB⟩
  · clear hi
    go_enter Tryd.func75, Tryd.ntmps75
    go_wp2_with fail
    go_ret
    exact ⟨rfl, by go_grown⟩
set_option maxHeartbeats 400000 in
theorem mePoint_yes (n i : Nat) (h1 : 1 ≤ n) (h2 : n ≤ 8) (hi : i < Pr.cnt n) (w : World) :
    Calls Tryd.prog 65 #[.int .i64 n, .int .i64 i] w fun e w' => e = .returned (.bool true) ∧ w = w' := by
  have hc := (Pr.cnt_le n (by omega)).1
  go_enter Tryd.func65, Tryd.ntmps65
  go_wp2_with (first | (go_at_call 47; refine (meCount_any n h2 _).mono ?_; rintro e w' ⟨rfl, rfl⟩) | go_in)
  go_ret
  exact ⟨ret_bool (by simp; omega), rfl⟩
set_option maxHeartbeats 400000 in
theorem mePoint_no (n i : Int) (h : ¬ Pr.okPt n i) (w : World) :
    Calls Tryd.prog 65 #[.int .i64 n, .int .i64 i] w fun e w' => e = .returned (.bool false) ∧ w = w' := by
  by_cases hn : 1 ≤ n ∧ n ≤ 8
  · obtain ⟨h1, h2⟩ := hn
    obtain ⟨n, rfl⟩ := Int.eq_ofNat_of_zero_le (show 0 ≤ n by omega)
    have hc := (Pr.cnt_le n (by omega)).1
    by_cases h0 : 0 ≤ i
    · have hi : ¬ i < (Pr.cnt n : Nat) := fun hi => h ⟨h1, h2, h0, by simpa using hi⟩
      clear h
      go_enter Tryd.func65, Tryd.ntmps65
      go_wp2_with (first | (go_at_call 47; refine (meCount_any n (by omega) _).mono ?_; rintro e w' ⟨rfl, rfl⟩) | go_in)
      go_ret
      exact ⟨ret_bool (by simp; omega), rfl⟩
    · clear h
      go_enter Tryd.func65, Tryd.ntmps65
      go_wp2_with (first | (go_at_call 47; refine (meCount_any n (by omega) _).mono ?_; rintro e w' ⟨rfl, rfl⟩) | go_in)
      go_ret
      exact ⟨rfl, rfl⟩
  · clear h
    by_cases h1 : 1 ≤ n
    · have h2 : ¬ n ≤ 8 := fun h2 => hn ⟨h1, h2⟩
      clear hn
      go_enter Tryd.func65, Tryd.ntmps65
      go_wp2_with go_in
      go_ret
      exact ⟨rfl, rfl⟩
    · clear hn
      go_enter Tryd.func65, Tryd.ntmps65
      go_wp2_with go_in
      go_ret
      exact ⟨rfl, rfl⟩
end Go.Proofs.YtncpnkcdjfohgaaDoor
