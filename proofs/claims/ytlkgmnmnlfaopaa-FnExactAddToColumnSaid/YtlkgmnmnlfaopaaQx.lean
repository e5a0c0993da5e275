import Derived.Test.YtlkgmnmnlfaopaaZa
namespace Go.Proofs.Ytlkgmnmnlfaopaa
open Go.RowKit
set_option maxRecDepth 4000
section
variable {P : Program} {ops : Array Oper} {S : World → Prop} {Q : Exit → Act → World → Prop}
/-- An operation whose guard does not want it. -/
theorem mix_skip {sole rest : List Nat} {a : Act} {w : World} (i : Nat) (o : Oper) (hi : sole.contains i = false) (ho : ops[i]? = some o) (hw : Region.wanted o (yielded ops a.tmps) = false) (d : Option Tmp) (hd : o.dst = d)
    (h : wpMix P ops S Q sole rest (a.put d undef) w) : wpMix P ops S Q sole (i :: rest) a w := by
  subst hd
  unfold wpMix
  rw [hi]
  exact ⟨o, undef, ho, .inr ⟨hw, rfl⟩, h⟩
theorem mix_skips {sole rest : List Nat} {a : Act} {w : World} (i : Nat) (o : Oper) (hi : sole.contains i = true) (ho : ops[i]? = some o) (hw : Region.wanted o (yielded ops a.tmps) = false) (d : Option Tmp) (hd : o.dst = d) (hS : S w)
    (h : wpMix P ops S Q sole rest (a.put d undef) w) : wpMix P ops S Q sole (i :: rest) a w := by
  subst hd
  refine mix_sole i o hi ho (fun K' hK => ?_)
  rw [if_neg (by rw [hw]; simp)]
  exact hK _ _ ⟨hS, h⟩
end
end Go.Proofs.Ytlkgmnmnlfaopaa
