import Derived.Test.YtncpnkcdjfohgaaDoorMb8
namespace Go.Proofs.YtncpnkcdjfohgaaDoor
open Go.RowKit
set_option maxRecDepth 4000
theorem tstB_yes {n : Int} {ts : List (List Int)} (h : tstB n ts = true) : ∃ m : Nat, n = m ∧ 1 ≤ m ∧ m ≤ 8 ∧ rowsB m 9 ts = true := by
  simp only [tstB, Bool.and_eq_true, decide_eq_true_eq] at h
  obtain ⟨⟨h1, h2⟩, hy⟩ := h
  obtain ⟨m, rfl⟩ := Int.eq_ofNat_of_zero_le (show 0 ≤ n by omega)
  exact ⟨m, rfl, by omega, by omega, by simpa using hy⟩
theorem cakeOf_fail (n : Int) (ts : List (List Int)) (hno : tstB n ts = false) (a : Option Addr) (cap : Nat) (w : World) (h : RdSS w w.heap.size a ts) :
    Calls Tryd.prog 43 #[.int .i64 n, .slice a ts.length cap] w fun e w' => e = .returned (.tuple #[.agg zeroC, .bool false]) ∧ Below w.heap.size w w' := by
  by_cases hn : 1 ≤ n ∧ n ≤ 8
  · obtain ⟨n, rfl⟩ := Int.eq_ofNat_of_zero_le (show 0 ≤ n by omega)
    have e : tstB n ts = rowsB n 9 ts := by simp [tstB]; omega
    exact cakeOf_no n (by omega) (by omega) ts a cap w h (by rw [← e]; exact hno)
  · exact cakeOf_side n hn ts a cap w
theorem ckTastes_yes (n : Nat) (h1 : 1 ≤ n) (h2 : n ≤ 8) (ts : List (List Int)) (hy : rowsB n 9 ts = true) (a : Option Addr) (cap B : Nat) (w : World) (h : RdSS w B a ts) :
    Calls Tryd.prog 40 #[.int .i64 n, .slice a ts.length cap] w fun e w' => e = .returned (.bool true) ∧ w = w' := by
  have := ckTastes_side n h1 h2 ts a cap B w h
  rwa [hy] at this
theorem ckTastes_no (n : Int) (ts : List (List Int)) (hy : tstB n ts = false) (a : Option Addr) (cap B : Nat) (w : World) (h : RdSS w B a ts) :
    Calls Tryd.prog 40 #[.int .i64 n, .slice a ts.length cap] w fun e w' => e = .returned (.bool false) ∧ w = w' := by
  have := ckTastes_any n ts a cap B w h
  rwa [hy] at this
end Go.Proofs.YtncpnkcdjfohgaaDoor
