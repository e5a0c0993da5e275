import Derived.Test.YtianmmjjcegkjaaDoorRows
import Derived.Test.YtianmmjjcegkjaaDoorTie
import Derived.OpenShut
import Derived.ProofKit
import Derived.LaidMore
import Derived.OpenVars
namespace Go.Proofs.YtianmmjjcegkjaaDoor
open Go.ChangeShapes Go.WideShapes Go.ChangeAt Go.RowKit
theorem one_of_take {α : Type} {l : List α} {j : Nat} {v : α} (h : (l.drop (j * 1)).take 1 = [v]) : l[j]? = some v := by
  rw [Nat.mul_one] at h
  have e : ((l.drop j).take 1)[0]? = some v := by rw [h]; rfl
  rw [List.getElem?_take, if_pos (by omega), List.getElem?_drop, Nat.add_zero] at e
  exact e
theorem two_of_take {α : Type} {l : List α} {i j : Nat} {v : α} (hj : j < 2) (h : ((l.drop (i * 2)).take 2)[j]? = some v) : l[i * 2 + j]? = some v := by
  rw [List.getElem?_take, if_pos hj, List.getElem?_drop] at h
  exact h
/-- A package's table of pairs of numbers, read. -/
theorem open_twos {H : Type} {enc : TypeId × Value → H} {P : Program} {W : World} {base : Nat} {spare : Nat → Bool} {held : Bool} {fuel : Nat} {t e k : TypeId} {n : Nat} {cs : List Value} {ds : List (DataW H)} {p : List MemPlace}
    (ht : P.underlying t = some (.array n e)) (he : P.underlying e = some (.array 2 k)) (hk : P.underlying k = some (.int .i64)) (ck : P.cellsOf k = 1) (ce : P.cellsOf e = 2) (h : DataW.trod enc P W base spare held fuel t cs = some (.agg ds, p)) :
    ∀ i, i < n → ∀ a b : Int, ds[i]? = some (.agg [.lit (.int .i64 a), .lit (.int .i64 b)]) → cs[i * 2]? = some (.int .i64 a) ∧ cs[i * 2 + 1]? = some (.int .i64 b) := by
  obtain ⟨xs, m, -, hx, hlen, hn, hel⟩ := DataW.trod_array ht h
  simp only [Prod.mk.injEq, DataW.agg.injEq] at hx
  intro i hi a b hd
  have h1 := hel i hi
  rw [ce] at h1
  rw [hx.1, List.getElem?_map] at hd
  cases hxi : xs[i]? with
  | none => rw [hxi] at hd; cases hd
  | some x =>
    rw [hxi] at h1 hd
    simp only [Option.map_some, Option.some.injEq] at hd
    obtain ⟨ys, m', -, hy, -, hn2, hel2⟩ := DataW.trod_array he h1
    subst hy
    simp only [DataW.agg.injEq] at hd
    have g0 := hel2 0 (by omega)
    have g1 := hel2 1 (by omega)
    rw [ck] at g0 g1
    match ys, hn2, hd, g0, g1 with
    | [y0, y1], _, hd, g0, g1 =>
      simp only [List.map_cons, List.map_nil, List.cons.injEq, and_true] at hd
      obtain ⟨z0, e0, f0, -⟩ := DataW.trod_int hk (show DataW.trod _ P W base spare held m' k _ = some y0 from g0)
      obtain ⟨z1, e1, f1, -⟩ := DataW.trod_int hk (show DataW.trod _ P W base spare held m' k _ = some y1 from g1)
      rw [f0, f1] at hd
      simp only [DataW.lit.injEq, Lit.int.injEq, true_and] at hd
      obtain ⟨rfl, rfl⟩ := hd
      have k0 := two_of_take (by omega) (one_of_take e0)
      have k1 := two_of_take (by omega) (one_of_take e1)
      exact ⟨by simpa using k0, k1⟩
end Go.Proofs.YtianmmjjcegkjaaDoor
