import Derived.Test.YtianmmjjcegkjaaDoorHs
namespace Go.Proofs.YtianmmjjcegkjaaDoor
open Go.RowKit
set_option maxRecDepth 4000
/-- What is left of a slice without its first. -/
theorem slice_tail (g o d c : Nat) (hc : d + 1 ≤ c) : ∃ ta, ta = (if c = 1 then some (⟨g, o, none⟩ : Addr) else some ⟨g, o + 1, none⟩) ∧ ∀ w, (Instr.sliceAt 27 (.slice (some ⟨g, o, none⟩) (d + 1) c) (some (.int .i64 1)) none none).run Tryd.prog w = .ok (.slice ta d (c - 1)) w := by
  refine ⟨_, rfl, fun w => ?_⟩
  have h0 : (1 : Int) ≤ ((d + 1 : Nat) : Int) := by omega
  have h1 : (1 : Int) ≤ (d : Int) + 1 := by omega
  rw [run_sliceAt_slice w 27 _ _ _ _ (by kernel_rfl)]
  by_cases h : c = 1
  · have hd : d = 0 := by omega
    subst h hd
    rfl
  · rw [if_neg h]
    have hi : (sizeOf (Tryd.prog.elem 27)).run Tryd.prog w = .ok 1 w := by kernel_rfl
    rw [run_slice_any w 27 _ _ _ (by kernel_rfl)]
    simp [Instr.sliceBounds, run_sliceBound, hi, Result.andThen, sliced, h1, Addr.add]
    omega
end Go.Proofs.YtianmmjjcegkjaaDoor
