import Derived.Test.YtjbdhgomcchoaaaSl
import Derived.BigQuiet
namespace Go.Proofs.Ytjbdhgomcchoaaa
open Go.RowKit
/-- A region that draws its order, whose operations read what stood in the world ahead of it and whose callees only make new memory: one walk in the order of the text, at any world that the region comes to. -/
theorem wp_region_below {id : Nat} {Q : Exit → Act → World → Prop} {a : Act} {w : World} {l : List Oper} (hm : Try.prog.follows .mixedOrders = true) (hB : Region.lexB .any l.toArray = true)
    (h : ∀ (ι : Type) (_ : Nonempty ι) (f : ι → World), (∀ i, Below w.heap.size w (f i)) → (∀ i w', Below (f i).heap.size (f i) w' → ∃ j, w' = f j) →
      wpQuiet Try.prog l.toArray (fun w' => ∃ i, w' = f i) (fun a' => ∀ w', (∃ i, w' = f i) → Q .normal a' w') l a) : (Code.region id l.toArray true).wp Try.prog Q a w :=
  wp_region_quiet (C := fun w' => ∃ i : {w' : World // Below w.heap.size w w'}, w' = i.1) hm hB ⟨⟨w.drew, (Below.refl _ _).drew⟩, rfl⟩
    (by simpa using h {w' : World // Below w.heap.size w w'} ⟨⟨w, Below.refl _ _⟩⟩ (fun i => i.1) (fun i => i.2) (fun i w' hb => ⟨⟨w', i.2.trans (hb.mono i.2.size)⟩, rfl⟩))
end Go.Proofs.Ytjbdhgomcchoaaa
