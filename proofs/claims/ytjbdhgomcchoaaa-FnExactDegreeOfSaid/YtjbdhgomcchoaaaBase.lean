import Derived.Test.YtjbdhgomcchoaaaRows
import Derived.Test.YtjbdhgomcchoaaaPure
import Derived.WalkKit
import Derived.WalkSpells
import Derived.WalkLawsBesides
import Derived.Handy
import Derived.Lib.Hide
namespace Go.Proofs.Ytjbdhgomcchoaaa
open Go.RowKit
theorem ret_bool {a b : Bool} (h : a = b) : Ending.returned (.bool a) = .returned (.bool b) := by rw [h]
theorem ret_int {a b : Int} (h : a = b) : Ending.returned (.int .i64 a) = .returned (.int .i64 b) := by rw [h]
theorem bnext {w a b : World} (h : Below w.heap.size w a) (k : Below a.heap.size a b) : Below w.heap.size w b := h.trans (k.mono h.size)
theorem balloc {w a : World} (h : Below w.heap.size w a) (o : Obj) : Below w.heap.size w (a.alloc o) := h.alloc h.size o
theorem cntW : ∀ n : Nat, n < 9 → wrap64 ((wrap64 (((n : Int) + 1) * ((n : Int) + 2))).tdiv 2) = (Pr.cnt n : Nat) := by decide +kernel
set_option maxHeartbeats 400000 in
theorem meCount_any (n : Nat) (h2 : n ≤ 8) (w : World) :
    Calls Try.prog 78 #[.int .i64 n] w fun e w' => e = .returned (.int .i64 (Pr.cnt n : Nat)) ∧ w = w' := by
  have h := Lib.hid (cntW n (by omega))
  go_enter Try.func78, Try.ntmps78
  go_wp2
  go_ret
  rw [h.out]
  exact ⟨rfl, rfl⟩
set_option maxHeartbeats 400000 in
theorem size_any (n : Nat) (h2 : n ≤ 8) (w : World) :
    Calls Try.prog 90 #[.agg #[.int .i64 n]] w fun e w' => e = .returned (.int .i64 (Pr.cnt n : Nat)) ∧ Below w.heap.size w w' := by
  have h := Lib.hid (cntW n (by omega))
  go_enter Try.func90, Try.ntmps90
  go_wp2
  go_ret
  rw [h.out]
  exact ⟨rfl, by go_grown⟩
set_option maxHeartbeats 400000 in
theorem meshOf_yes (n : Nat) (h1 : 1 ≤ n) (h2 : n ≤ 8) (w : World) :
    Calls Try.prog 48 #[.int .i64 n] w fun e w' => e = .returned (.tuple #[.agg #[.int .i64 n], .bool true]) ∧ Below w.heap.size w w' := by
  have hd : decide ((n : Int) ≤ 8) = true := by simp; omega
  go_enter Try.func48, Try.ntmps48
  go_wp2
  go_returns
  exact ⟨rfl, by go_grown⟩
set_option maxHeartbeats 400000 in
theorem meshOf_no (n : Int) (h : ¬ (1 ≤ n ∧ n ≤ 8)) (w : World) :
    Calls Try.prog 48 #[.int .i64 n] w fun e w' => e = .returned (.tuple #[.agg #[.int .i64 n], .bool false]) ∧ Below w.heap.size w w' := by
  by_cases h1 : 1 ≤ n
  · have h2 : ¬ n ≤ 8 := fun h2 => h ⟨h1, h2⟩
    clear h
    go_enter Try.func48, Try.ntmps48
    go_wp2
    go_returns
    exact ⟨rfl, by go_grown⟩
  · clear h
    go_enter Try.func48, Try.ntmps48
    go_wp2
    go_returns
    exact ⟨rfl, by go_grown⟩
set_option maxHeartbeats 400000 in
theorem meAt_any (n i : Nat) (h1 : 1 ≤ n) (h2 : n ≤ 8) (i1 : i < 45) (w : World) :
    Calls Try.prog 79 #[.int .i64 n, .int .i64 i] w fun e w' => e = .returned (.slice (some ⟨w.heap.size, 0, none⟩) 3 3) ∧ w' = w.alloc (.cells #[.int .i64 ((n : Int) - (Pr.R i : Nat)), .int .i64 ((Pr.R i : Int) - (Pr.C i : Nat)), .int .i64 (Pr.C i : Nat)] 3) := by
  go_enter Try.func79, Try.ntmps79
  go_wp2
  go_loop [1, 5] (fun v1 v5 => ∃ k j : Nat, Pr.T k + j = i ∧ v5 = .int .i64 k ∧ v1 = .int .i64 j) (fun v1 _ => (intOf v1).toNat)
  case atStart => exact ⟨0, i, by simp [Pr.T], rfl, rfl⟩
  case round =>
    obtain ⟨k, j, hT, rfl, rfl⟩ := hrel
    have hT1 := Pr.T_succ k
    by_cases hlt : k < j
    · have hj : j < 45 := by omega
      clear hT1
      go_wp2
      go_round
      case rel => exact ⟨k + 1, j - (k + 1), by rw [Pr.T_succ]; omega, by go_num, by go_num⟩
      case measure => simp [intOf]; omega
    · have hk := Pr.T_lt_of k i i1 (by omega)
      have he := Pr.RC_end i k i1 (by omega) (by omega)
      have hC : j = Pr.C i := by omega
      have hR : k = Pr.R i := he.1
      clear he
      have HC := Lib.hid hC
      have HR := Lib.hid hR
      clear hC hR hT1 hT
      go_wp2
      go_ret
      rw [← HC.out, ← HR.out]
      exact ⟨rfl, rfl⟩
def pt (n i : Nat) : List Int := [(n : Int) - (Pr.R i : Nat), (Pr.R i : Int) - (Pr.C i : Nat), (Pr.C i : Nat)]
set_option maxHeartbeats 400000 in
theorem spotAt_any (n i : Nat) (h1 : 1 ≤ n) (h2 : n ≤ 8) (i1 : i < 45) (w : World) :
    Calls Try.prog 83 #[.agg #[.int .i64 n], .int .i64 i] w fun e w' => e = .returned (.agg #[.int .i64 ((n : Int) - (Pr.R i : Nat)), .int .i64 ((Pr.R i : Int) - (Pr.C i : Nat)), .int .i64 (Pr.C i : Nat)]) ∧ Below w.heap.size w w' := by
  go_enter Try.func83, Try.ntmps83
  go_wp2
  go_loop [1, 5] (fun v1 v5 => ∃ k j : Nat, Pr.T k + j = i ∧ v5 = .int .i64 k ∧ v1 = .int .i64 j) (fun v1 _ => (intOf v1).toNat)
  case atStart => exact ⟨0, i, by simp [Pr.T], rfl, rfl⟩
  case round =>
    obtain ⟨k, j, hT, rfl, rfl⟩ := hrel
    have hT1 := Pr.T_succ k
    by_cases hlt : k < j
    · have hj : j < 45 := by omega
      clear hT1
      go_wp2
      go_round
      case rel => exact ⟨k + 1, j - (k + 1), by rw [Pr.T_succ]; omega, by go_num, by go_num⟩
      case measure => simp [intOf]; omega
    · have hk := Pr.T_lt_of k i i1 (by omega)
      have he := Pr.RC_end i k i1 (by omega) (by omega)
      have hC : j = Pr.C i := by omega
      have hR : k = Pr.R i := he.1
      clear he
      have HC := Lib.hid hC
      have HR := Lib.hid hR
      clear hC hR hT1 hT
      go_wp2
      go_returns
      rw [← HC.out, ← HR.out]
      exact ⟨rfl, by go_grown⟩
set_option maxHeartbeats 400000 in
theorem meSide_yes (n : Nat) (h1 : 1 ≤ n) (h2 : n ≤ 8) (w : World) :
    Calls Try.prog 46 #[.int .i64 n] w fun e w' => e = .returned (.bool true) ∧ w = w' := by
  go_enter Try.func46, Try.ntmps46
  go_wp2_with go_in
  go_ret
  exact ⟨ret_bool (by simp; omega), rfl⟩
set_option maxHeartbeats 400000 in
theorem meSide_no (n : Int) (h : ¬ (1 ≤ n ∧ n ≤ 8)) (w : World) :
    Calls Try.prog 46 #[.int .i64 n] w fun e w' => e = .returned (.bool false) ∧ w = w' := by
  by_cases h1 : 1 ≤ n
  · have h2 : ¬ n ≤ 8 := fun h2 => h ⟨h1, h2⟩
    clear h
    go_enter Try.func46, Try.ntmps46
    go_wp2_with go_in
    go_ret
    exact ⟨ret_bool (by simp), rfl⟩
  · clear h
    go_enter Try.func46, Try.ntmps46
    go_wp2_with go_in
    go_ret
    exact ⟨ret_bool (by simp), rfl⟩
theorem flip {P : Program} {f : FuncId} {args : Array Value} {w : World} {v : Value} (h : Calls P f args w fun e w' => e = .returned v ∧ w = w') : Calls P f args w fun e w' => e = .returned v ∧ w' = w :=
  h.mono fun _ _ ⟨a, b⟩ => ⟨a, b.symm⟩
set_option maxHeartbeats 400000 in
theorem l1In_yes (n lo hi : Int) (h : lo ≤ n ∧ n ≤ hi) (w : World) :
    Calls Try.prog 56 #[.int .i64 n, .int .i64 lo, .int .i64 hi] w fun e w' => e = .returned (.bool true) ∧ w = w' := by
  obtain ⟨h1, h2⟩ := h
  go_enter Try.func56, Try.ntmps56
  go_wp2_with fail
  go_ret
  exact ⟨ret_bool (by simp), rfl⟩
set_option maxHeartbeats 400000 in
theorem l1In_no (n lo hi : Int) (h : ¬ (lo ≤ n ∧ n ≤ hi)) (w : World) :
    Calls Try.prog 56 #[.int .i64 n, .int .i64 lo, .int .i64 hi] w fun e w' => e = .returned (.bool false) ∧ w = w' := by
  by_cases h1 : lo ≤ n
  · have h2 : ¬ n ≤ hi := fun h2 => h ⟨h1, h2⟩
    clear h
    go_enter Try.func56, Try.ntmps56
    go_wp2_with fail
    go_ret
    exact ⟨ret_bool (by simp), rfl⟩
  · clear h
    go_enter Try.func56, Try.ntmps56
    go_wp2_with fail
    go_ret
    exact ⟨ret_bool (by simp), rfl⟩
end Go.Proofs.Ytjbdhgomcchoaaa
