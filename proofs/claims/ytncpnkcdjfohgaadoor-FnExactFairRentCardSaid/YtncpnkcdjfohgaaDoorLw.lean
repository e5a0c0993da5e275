import Derived.Test.YtncpnkcdjfohgaaDoorLv
namespace Go.Proofs.YtncpnkcdjfohgaaDoor
open Go.ChangeShapes Go.WideShapes Go.ChangeAt Go.RowKit
theorem three_of_take {α : Type} {l : List α} {i j : Nat} {v : α} (hj : j < 3) (h : ((l.drop (i * 3)).take 3)[j]? = some v) : l[i * 3 + j]? = some v := by
  rw [List.getElem?_take, if_pos hj, List.getElem?_drop] at h
  exact h
/-- A package's table of three numbers a row, read. -/
theorem open_threes {H : Type} {enc : TypeId × Value → H} {P : Program} {W : World} {base : Nat} {spare : Nat → Bool} {held : Bool} {fuel : Nat} {t e k : TypeId} {n : Nat} {cs : List Value} {ds : List (DataW H)} {p : List MemPlace}
    (ht : P.underlying t = some (.array n e)) (he : P.underlying e = some (.array 3 k)) (hk : P.underlying k = some (.int .i64)) (ck : P.cellsOf k = 1) (ce : P.cellsOf e = 3) (h : DataW.trod enc P W base spare held fuel t cs = some (.agg ds, p)) :
    ∀ i, i < n → ∀ a b c : Int, ds[i]? = some (.agg [.lit (.int .i64 a), .lit (.int .i64 b), .lit (.int .i64 c)]) → cs[i * 3]? = some (.int .i64 a) ∧ cs[i * 3 + 1]? = some (.int .i64 b) ∧ cs[i * 3 + 2]? = some (.int .i64 c) := by
  obtain ⟨xs, m, -, hx, hlen, hn, hel⟩ := DataW.trod_array ht h
  simp only [Prod.mk.injEq, DataW.agg.injEq] at hx
  intro i hi a b c hd
  have h1 := hel i hi
  rw [ce] at h1
  rw [hx.1, List.getElem?_map] at hd
  cases hxi : xs[i]? with
  | none => rw [hxi] at hd; cases hd
  | some x =>
    rw [hxi] at h1 hd
    simp only [Option.map_some, Option.some.injEq] at hd
    obtain ⟨ys, m', -, hy, -, hn2, hel2⟩ := DataW.trod_array he h1
    subst hy
    simp only [DataW.agg.injEq] at hd
    have g0 := hel2 0 (by omega)
    have g1 := hel2 1 (by omega)
    have g2 := hel2 2 (by omega)
    rw [ck] at g0 g1 g2
    match ys, hn2, hd, g0, g1, g2 with
    | [y0, y1, y2], _, hd, g0, g1, g2 =>
      simp only [List.map_cons, List.map_nil, List.cons.injEq, and_true] at hd
      obtain ⟨z0, e0, f0, -⟩ := DataW.trod_int hk (show DataW.trod _ P W base spare held m' k _ = some y0 from g0)
      obtain ⟨z1, e1, f1, -⟩ := DataW.trod_int hk (show DataW.trod _ P W base spare held m' k _ = some y1 from g1)
      obtain ⟨z2, e2, f2, -⟩ := DataW.trod_int hk (show DataW.trod _ P W base spare held m' k _ = some y2 from g2)
      rw [f0, f1, f2] at hd
      simp only [DataW.lit.injEq, Lit.int.injEq, true_and] at hd
      obtain ⟨rfl, rfl, rfl⟩ := hd
      have k0 := three_of_take (by omega) (one_of_take e0)
      have k1 := three_of_take (by omega) (one_of_take e1)
      have k2 := three_of_take (by omega) (one_of_take e2)
      exact ⟨by simpa using k0, k1, k2⟩
end Go.Proofs.YtncpnkcdjfohgaaDoor
