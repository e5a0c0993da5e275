import Derived.Test.YtokhpchnnilbaaaZk
namespace Go.Proofs.Ytokhpchnnilbaaa
open Go.RowKit
set_option maxRecDepth 4000
theorem oi_lo9 {w : World} {l lo hi : Nat} {v : Value} {xs : List Int} (h : OI w lo hi v xs) (hl : l ≤ lo) : OI w l hi v xs := by
  obtain ⟨et, ho, hh⟩ := h
  refine ⟨et, ?_, hh⟩
  obtain ⟨h1, h2⟩ := ho
  refine ⟨h1, ?_⟩
  rcases h2 with h2 | ⟨g, cap, cur, e, hg, r⟩
  · exact .inl h2
  · exact .inr ⟨g, cap, cur, e, Nat.le_trans hl hg, r⟩
end Go.Proofs.Ytokhpchnnilbaaa
