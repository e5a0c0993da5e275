import Derived.Test.YtjohjiknngagiaaK26
namespace Go.Proofs.Ytjohjiknngagiaa
open Go.RowKit
set_option maxRecDepth 4000
theorem hidG8 (n k : Nat) (h : 1 ≤ (n : Int) ∧ (n : Int) ≤ 8 ∧ 1 ≤ (k : Int) ∧ (k : Int) ≤ n) (w : World) : Calls Try.prog 35 #[.int .i64 n, .int .i64 k] w fun e w' => ∃ v, e = .returned (.tuple #[.agg #[v, .int .i64 n, .int .i64 k], .bool true]) ∧ OI w' w.heap.size w'.heap.size v (toI (kS n k)) ∧ Below w.heap.size w w' :=
  (knGraph_yes n k (by omega) (by omega) (by omega) w).mono (by
    rintro e w' ⟨v, rfl, ho, hb⟩
    exact ⟨v, rfl, oi_new ho, hb⟩)
theorem kS_len8 (n k : Nat) (h : n ≤ 8) : (kS n k).length ≤ 256 := by rw [← kI_length]; exact kI_len n k h
end Go.Proofs.Ytjohjiknngagiaa
