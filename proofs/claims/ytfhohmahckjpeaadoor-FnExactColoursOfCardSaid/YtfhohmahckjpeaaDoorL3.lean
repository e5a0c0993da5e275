import Derived.OpenShut
import Derived.ProofKit
import Derived.LaidMore
import Derived.OpenVars
import Derived.Test.YtfhohmahckjpeaaDoorTie
import Derived.Test.YtfhohmahckjpeaaDoorL1
namespace Go.Proofs.YtfhohmahckjpeaaDoor
open Go.RowKit
set_option maxRecDepth 4000
/-- A package's table of bytes, read. -/
theorem open_bytes {H : Type} {enc : TypeId × Value → H} {P : Program} {W : World} {base : Nat} {spare : Nat → Bool} {held : Bool} {fuel : Nat} {t k : TypeId} {n : Nat} {cs : List Value} {ds : List (DataW H)} {p : List MemPlace}
    (ht : P.underlying t = some (.array n k)) (hk : P.underlying k = some (.int .u8)) (ck : P.cellsOf k = 1) (h : DataW.trod enc P W base spare held fuel t cs = some (.agg ds, p)) :
    ∀ i, i < n → ∀ a : Int, ds[i]? = some (.lit (.int .u8 a)) → cs[i]? = some (.int .u8 a) := by
  obtain ⟨xs, m, -, hx, hlen, hn, hel⟩ := DataW.trod_array ht h
  simp only [Prod.mk.injEq, DataW.agg.injEq] at hx
  intro i hi a hd
  have h1 := hel i hi
  rw [ck] at h1
  rw [hx.1, List.getElem?_map] at hd
  cases hxi : xs[i]? with
  | none => rw [hxi] at hd; cases hd
  | some x =>
    rw [hxi] at h1 hd
    simp only [Option.map_some, Option.some.injEq] at hd
    obtain ⟨z0, e0, f0, -⟩ := DataW.trod_int hk h1
    rw [f0] at hd
    simp only [DataW.lit.injEq, Lit.int.injEq, true_and] at hd
    subst hd
    have e : ((cs.drop (i * 1)).take 1)[0]? = some (.int .u8 z0) := by rw [e0]; rfl
    rw [Nat.mul_one, List.getElem?_take, if_pos (by omega), List.getElem?_drop, Nat.add_zero] at e
    exact e
end Go.Proofs.YtfhohmahckjpeaaDoor
