import Derived.LoopN
import Derived.BigRegion
import Derived.RegionTactic
import Derived.Test.YtlkgmnmnlfaopaaS4
import Derived.Test.YtlkgmnmnlfaopaaS6
namespace Go.Proofs.Ytlkgmnmnlfaopaa
open Go.RowKit
set_option maxRecDepth 4000
theorem exec_build3 {o : Oper} {a : Act} {w : World} (ty : TypeId) (i0 i1 i2 : Nat) (y0 y1 y2 : Operand) (ho : o.op = .build ty #[(i0, y0), (i1, y1), (i2, y2)]) (v0 v1 v2 : Value) (h0 : a.eval y0 = v0) (h1 : a.eval y1 = v1) (h2 : a.eval y2 = v2) (v : Value)
    (hr : (Instr.build ty #[(i0, v0), (i1, v1), (i2, v2)]).run Try.prog w = .ok v w) : (execOp a.eval o).run Try.prog w = .ok (.value v) w := by
  unfold execOp
  simp [ho, h0, h1, h2, hr]
set_option maxHeartbeats 1600000 in
theorem imageAt_any (n i : Nat) (hi : i < 21) (im : List (List Int)) (w : World) :
    Calls Try.prog 115 #[.agg (mapA n im), .int .i64 i] w fun e w' => e = .returned (.agg (spA3 (iq im i 0) (iq im i 1) (iq im i 2))) ∧ Below w.heap.size w w' := by
  have hi21 : (i : Int) < 21 := by omega
  have HC : Hid ((mapA n im)[1 + i * 3]? = some (.int .i64 (iq im i 0)) ∧ (mapA n im)[1 + i * 3 + 1]? = some (.int .i64 (iq im i 1)) ∧ (mapA n im)[1 + i * 3 + 2]? = some (.int .i64 (iq im i 2))) := Lib.hid ⟨mapA_at n im i 0 (by omega) (by omega), mapA_at n im i 1 (by omega) (by omega), mapA_at n im i 2 (by omega) (by omega)⟩
  have HV : Hid (∀ a b c, spA3 a b c = #[.int .i64 a, .int .i64 b, .int .i64 c]) := Lib.hid (fun _ _ _ => rfl)
  generalize mapA n im = fA at *
  rw [HV.out]
  generalize iq im i 0 = x0 at *
  generalize iq im i 1 = x1 at *
  generalize iq im i 2 = x2 at *
  obtain ⟨k0, k1, k2⟩ := HC.out
  go_enter Try.func115, Try.ntmps115
  go_wp2_with fail
  go_returns
  exact ⟨rfl, by go_grown⟩
end Go.Proofs.Ytlkgmnmnlfaopaa
