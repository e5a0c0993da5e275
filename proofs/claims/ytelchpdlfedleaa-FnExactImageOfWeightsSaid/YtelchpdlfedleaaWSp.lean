import Derived.Test.YtelchpdlfedleaaS2
import Derived.Test.YtelchpdlfedleaaZg
namespace Go.Proofs.Ytelchpdlfedleaa
open Go.RowKit
set_option maxRecDepth 4000
/-- A cell of the model's list, with the block where its points lie. -/
theorem spec_cell6 {w : World} {base : Nat} {a : Option Addr} {m cap n k : Nat} (h2 : n ≤ 8) (hc : CellsV w base (.slice a m cap) (ci n)) (hk : k < (ci n).length) :
    m = (ci n).length ∧ ∃ g rc rb, a = some ⟨g, 0, none⟩ ∧ g < w.heap.size ∧ w.cell? ⟨g, k, none⟩ = some (.slice (some ⟨rb, 0, none⟩) 3 rc) ∧ Rd w (some ⟨rb, 0, none⟩) rb 0 ((cl n k).map (fun (i : Nat) => (i : Int))) ∧ rb < w.heap.size := by
  obtain ⟨hm, g, ra, rc, rb, ha, hgl, c1, hrd, hx⟩ := spec_cell h2 hc hk
  have e := (hrd.2 0 (by simp [cl])).1
  subst e
  exact ⟨hm, g, rc, rb, ha, hgl, c1, hrd, hx.resolve_left (by simp)⟩
theorem cl_lt (n k : Nat) (h2 : n ≤ 8) (hk : k < (ci n).length) (j : Nat) (hj : j < 3) : (cl n k).getD j 0 < Pr.cnt n := by
  obtain ⟨-, hall⟩ := ci_cq n (by omega)
  obtain ⟨-, -, -, -, hp, hq, hr⟩ := hall k hk
  rcases (by omega : j = 0 ∨ j = 1 ∨ j = 2) with rfl | rfl | rfl
  · exact hp
  · exact hq
  · exact hr
theorem fxAsked_yes (n k : Nat) (h1 : 1 ≤ n) (h2 : n ≤ 5) (im : List (List Int)) (hy : imB n im = true) (hk : k < (ci n).length) (a : Option Addr) (cap B : Nat) (w : World) (h : RdSS w B a im) :
    Calls Try.prog 55 #[.int .i64 n, .slice a im.length cap, .int .i64 k] w fun e w' => e = .returned (.bool true) ∧ Same w w' := by
  have := fxAsked_any n im k a cap B w h
  have e : okM n im k = true := by simp [okM, imgB_nat n h1 h2, hy, hk]
  rwa [e] at this
theorem fxAsked_no (n c : Int) (im : List (List Int)) (hy : okM n im c = false) (a : Option Addr) (cap B : Nat) (w : World) (h : RdSS w B a im) :
    Calls Try.prog 55 #[.int .i64 n, .slice a im.length cap, .int .i64 c] w fun e w' => e = .returned (.bool false) ∧ Same w w' := by
  have := fxAsked_any n im c a cap B w h
  rwa [hy] at this
end Go.Proofs.Ytelchpdlfedleaa
