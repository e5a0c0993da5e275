import Derived.Test.YthkohenobbhhmaaVn
import Derived.Test.YthkohenobbhhmaaVh
import Derived.Test.YthkohenobbhhmaaZc
namespace Go.Proofs.Ythkohenobbhhmaa
open Go.RowKit
set_option maxRecDepth 4000
/-- Rows of different types lie in different blocks. -/
theorem own_ne {w : World} {base base' n m : Nat} {pv v : Value} {xs ys : List Value} (h : w.ownsRow base 3 1 pv n xs) (h' : w.ownsRow base' 56 52 v m ys) : ∀ k, pv.ownBlock = some k → v.ownBlock ≠ some k := by
  intro k hk hk'
  rcases h.2 with ⟨rfl, -⟩ | ⟨g, cap, cur, rfl, -, hh, -⟩
  · cases hk
  · rcases h'.2 with ⟨rfl, -⟩ | ⟨g', cap', cur', rfl, -, hh', -⟩
    · cases hk'
    · have e : g = k := by simpa [Value.ownBlock] using hk
      have e' : g' = k := by simpa [Value.ownBlock] using hk'
      subst e e'
      rw [hh] at hh'
      simp at hh'
/-- The structs that walks are kept in, and the rooms of each. -/
def WRel (w : World) (base : Nat) (cs : List (Array Value)) (Ls : List (List Nat)) : Prop :=
  cs.length = Ls.length ∧ ∀ j, j < cs.length → ∃ r pv u v f, cs.getD j #[] = wkA r pv u v f ∧ r.size = 48 ∧ (wkA r pv u v f).all (·.oneCell') = true ∧ w.ownsRow base 3 1 pv (ints (Ls.getD j [])).length ((ints (Ls.getD j [])).map (Value.int .i64))
theorem WRel.size {w : World} {base : Nat} {cs : List (Array Value)} {Ls : List (List Nat)} (h : WRel w base cs Ls) : ∀ c ∈ cs, c.size = 52 := by
  intro c hc
  obtain ⟨j, hj, rfl⟩ := List.getElem_of_mem hc
  obtain ⟨r, pv, u, v, f, e, h48, -⟩ := h.2 j hj
  rw [List.getD_eq_getElem?_getD, List.getElem?_eq_getElem hj, Option.getD_some] at e
  rw [e]
  exact wkA_size _ _ _ _ _ h48
theorem WRel.nil (w : World) (base : Nat) : WRel w base [] [] := ⟨rfl, fun j hj => absurd hj (by simp)⟩
theorem WRel.now {w w' : World} {base : Nat} {cs : List (Array Value)} {Ls : List (List Nat)} (h : WRel w base cs Ls) (hb : Below w.heap.size w w') : WRel w' base cs Ls :=
  ⟨h.1, fun j hj => by
    obtain ⟨r, pv, u, v, f, e, h48, h1, ho⟩ := h.2 j hj
    exact ⟨r, pv, u, v, f, e, h48, h1, own_now ho hb⟩⟩
theorem WRel.push {w w' : World} {base m : Nat} {V : Value} {cs : List (Array Value)} {Ls : List (List Nat)} {L : List Nat} {r : Array Value} {pv : Value} {u v : Int} {f : Bool} {ys : List Value} (h : WRel w base cs Ls)
    (hk : ∀ k, k < w.heap.size → V.ownBlock ≠ some k → w'.heap[k]? = w.heap[k]?) (hV : w.ownsRow base 56 52 V m ys) (h48 : r.size = 48) (h1 : (wkA r pv u v f).all (·.oneCell') = true)
    (ho : w.ownsRow base 3 1 pv (ints L).length ((ints L).map (Value.int .i64))) : WRel w' base (cs ++ [wkA r pv u v f]) (Ls ++ [L]) := by
  refine ⟨by simp [h.1], fun j hj => ?_⟩
  by_cases hlt : j < cs.length
  · obtain ⟨r, pv, u, v, f, e, h48, h1, ho⟩ := h.2 j hlt
    have hlt2 : j < Ls.length := by rw [← h.1]; exact hlt
    refine ⟨r, pv, u, v, f, ?_, h48, h1, ?_⟩
    · rw [← e]; simp [List.getD, List.getElem?_append_left hlt]
    · rw [show (Ls ++ [L]).getD j [] = Ls.getD j [] by simp [List.getD, List.getElem?_append_left hlt2]]
      exact own_keep ho (fun q hq => hk q (own_lt ho q hq) (own_ne ho hV q hq))
  · have e : j = cs.length := by simp at hj; omega
    subst e
    refine ⟨r, pv, u, v, f, by simp [List.getD], h48, h1, ?_⟩
    rw [show (Ls ++ [L]).getD cs.length [] = L by simp [List.getD, h.1]]
    exact own_keep ho (fun q hq => hk q (own_lt ho q hq) (own_ne ho hV q hq))
end Go.Proofs.Ythkohenobbhhmaa
