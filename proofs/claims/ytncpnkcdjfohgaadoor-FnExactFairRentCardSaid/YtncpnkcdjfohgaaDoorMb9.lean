import Derived.Test.YtncpnkcdjfohgaaDoorMb2
namespace Go.Proofs.YtncpnkcdjfohgaaDoor
open Go.RowKit
set_option maxRecDepth 4000
theorem cakeArr : Tryd.prog.arrayLen 53 = 8 := by kernel_rfl
theorem cakeElem (w : World) : (sizeOf (Tryd.prog.elem 53)).run Tryd.prog w = .ok 3 w := by kernel_rfl
theorem slice_cake (g b s : Nat) (h : b + s ≤ 8) : ∃ off, (0 < s → off = 1 + 3 * b) ∧ ∀ w, (Instr.sliceAt 53 (.pointer (some ⟨g, 1, none⟩)) (some (.int .i64 (b : Nat))) (some (.int .i64 ((b : Int) + (s : Int)))) none).run Tryd.prog w = .ok (.slice (some ⟨g, off, none⟩) s (8 - b)) w := by
  have e : ∀ w, (Instr.sliceAt 53 (.pointer (some ⟨g, 1, none⟩)) (some (.int .i64 (b : Nat))) (some (.int .i64 ((b : Int) + (s : Int)))) none).run Tryd.prog w = .ok (slicedAt ⟨g, 1, none⟩ b (b + s) 8 3) w := by
    intro w
    have h := run_sliceAt_array_lh (P := Tryd.prog) w 53 ⟨g, 1, none⟩ Tryd.underlying53 .i64 .i64 (b : Nat) ((b : Int) + (s : Int)) (by omega) (by omega) (by rw [cakeArr]; omega)
    rw [h, cakeElem, Result.andThen_ok, cakeArr]
    congr 2
  by_cases hb : 8 = b
  · refine ⟨1, fun hs => by omega, fun w => ?_⟩
    rw [e w, slicedAt, if_pos hb]
    congr 2
    omega
  · refine ⟨1 + b * 3, fun hs => by omega, fun w => ?_⟩
    rw [e w, slicedAt, if_neg hb, Addr.add_lit]
    congr 2
    omega
end Go.Proofs.YtncpnkcdjfohgaaDoor
