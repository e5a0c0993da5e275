import Derived.RegionTactic
import Derived.Test.YtjohjiknngagiaaK6
import Derived.Test.YtjohjiknngagiaaZa
namespace Go.Proofs.Ytjohjiknngagiaa
open Go.RowKit
set_option maxRecDepth 4000
theorem kI_at (n k j : Nat) : (kI n k).getD j 0 = (((kS n k).getD j 0 : Nat) : Int) := by
  simp only [kI, List.getD_eq_getElem?_getD, List.getElem?_map]
  cases (kS n k)[j]? <;> rfl
theorem kI_length (n k : Nat) : (kI n k).length = (kS n k).length := by simp [kI]
theorem kS_lt (n k : Nat) (h : n ≤ 8) (s : Nat) (hs : s ∈ kS n k) : s < 2 ^ n ∧ s < 256 := by
  have h1 : s < 2 ^ n := by
    simp only [kS, List.mem_filter, List.mem_range] at hs
    exact hs.1
  have h2 : 2 ^ n ≤ 2 ^ 8 := Nat.pow_le_pow_right (by omega) h
  omega
theorem kS_at_lt (n k : Nat) (h : n ≤ 8) (j : Nat) (hj : j < (kS n k).length) : (kS n k).getD j 0 < 2 ^ n ∧ (kS n k).getD j 0 < 256 := by
  rw [List.getD_eq_getElem?_getD, List.getElem?_eq_getElem hj]
  exact kS_lt n k h _ (List.getElem_mem hj)
theorem filt_map (l : List Nat) (F : Int → Bool) (G : Nat → Bool) (h : ∀ s ∈ l, F (s : Int) = G s) : (l.map (fun (j : Nat) => (j : Int))).filter F = (l.filter G).map (fun (j : Nat) => (j : Int)) := by
  rw [List.filter_map]
  congr 1
  exact List.filter_congr (fun x hx => h x hx)
theorem callApart : ∀ (args : Array Value) (w : World), (callFunc 54 args).run Try.prog w = .ok (.enter 54 args) w := fun _ _ => rfl
end Go.Proofs.Ytjohjiknngagiaa
