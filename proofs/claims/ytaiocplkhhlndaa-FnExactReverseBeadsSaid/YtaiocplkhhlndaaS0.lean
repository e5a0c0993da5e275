import Derived.Test.YtaiocplkhhlndaaZk
import Derived.Test.YtaiocplkhhlndaaZc
namespace Go.Proofs.Ytaiocplkhhlndaa
open Go.RowKit
set_option maxRecDepth 4000
theorem rds_same {w w' : World} {B : Nat} {a : Option Addr} {xs : List Int} (h : RdS w B a xs) (hs : Same w w') : RdS w' B a xs := by
  obtain ⟨b, off, h, h2⟩ := h
  exact ⟨b, off, h.same hs, h2⟩
theorem l1All_rd (xs : List Int) (a : Option Addr) (cap B : Nat) (lo hi : Int) (w : World) (h : RdS w B a xs) :
    Calls Try.prog 46 #[.slice a xs.length cap, .int .i64 lo, .int .i64 hi] w fun e w' => e = .returned (.bool (allB lo hi xs)) ∧ w = w' := by
  obtain ⟨b, off, h, -⟩ := h
  exact l1All_any xs a b off _ cap lo hi w rfl h
end Go.Proofs.Ytaiocplkhhlndaa
