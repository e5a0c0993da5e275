import Derived.Test.YtokhpchnnilbaaaZk
import Derived.Test.YtokhpchnnilbaaaZc
namespace Go.Proofs.Ytokhpchnnilbaaa
open Go.RowKit
set_option maxRecDepth 4000
theorem rds_same {w w' : World} {B : Nat} {a : Option Addr} {xs : List Int} (h : RdS w B a xs) (hs : Same w w') : RdS w' B a xs := by
  obtain ⟨b, off, h, h2⟩ := h
  exact ⟨b, off, h.same hs, h2⟩
end Go.Proofs.Ytokhpchnnilbaaa
