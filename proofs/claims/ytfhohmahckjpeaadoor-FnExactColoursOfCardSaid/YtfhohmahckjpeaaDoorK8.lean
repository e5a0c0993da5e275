import Derived.Test.YtfhohmahckjpeaaDoorK7
namespace Go.Proofs.YtfhohmahckjpeaaDoor
open Go.RowKit
set_option maxRecDepth 4000
/-- A list of sets as numbers. -/
def toI (l : List Nat) : List Int := l.map (fun (j : Nat) => (j : Int))
theorem toI_len (l : List Nat) : (toI l).length = l.length := by simp [toI]
theorem toI_at (l : List Nat) (j : Nat) : (toI l).getD j 0 = ((l.getD j 0 : Nat) : Int) := by
  simp only [toI, List.getD_eq_getElem?_getD, List.getElem?_map]
  cases l[j]? <;> rfl
theorem mem_getD {l : List Nat} {P : Nat → Prop} (h : ∀ s ∈ l, P s) (j : Nat) (hj : j < l.length) : P (l.getD j 0) := by
  rw [List.getD_eq_getElem?_getD, List.getElem?_eq_getElem hj]
  exact h _ (List.getElem_mem hj)
theorem rds_bel {w w' : World} {B : Nat} {a : Option Addr} {xs : List Int} (h : RdS w B a xs) (hb : Below B w w') : RdS w' B a xs := by
  obtain ⟨b, off, h, hB⟩ := h
  refine ⟨b, off, ⟨h.1, fun j hj => ⟨(h.2 j hj).1, ?_⟩⟩, hB⟩
  rcases hB with h0 | hB
  · omega
  · exact (hb.cell hB).trans (h.2 j hj).2
theorem oi_set {w : World} {lo hi g k : Nat} {v : Value} {xs : List Int} (h : OI w lo hi v xs) (hg : g < lo) (u : Value) : OI (w.setCell ⟨g, k, none⟩ u) lo hi v xs := by
  obtain ⟨et, h1, h2⟩ := h
  exact ⟨et, hp_own h1 hg u, h2⟩
def meetL (n k : Nat) (l : List Nat) : List Nat := if n < 2 * k then l else l.filter (fun s => s.testBit 0)
end Go.Proofs.YtfhohmahckjpeaaDoor
