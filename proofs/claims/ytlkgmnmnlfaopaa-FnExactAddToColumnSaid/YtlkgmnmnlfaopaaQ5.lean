import Derived.Lib.SmallJoins
import Derived.Test.YtlkgmnmnlfaopaaQ4
namespace Go.Proofs.Ytlkgmnmnlfaopaa
open Go.RowKit
set_option maxRecDepth 4000
open Go.ChangeShapes Go.WideShapes Go.Joins Go.Deep
theorem rdss_open1 {H : Type} {enc : TypeId × Value → H} {W : World} {base : Nat} {held : Bool} {fuel : Nat} {v : Value} {x : DataW H × List MemPlace}
    (hf : DataW.trod enc Try.prog W base (fun _ => true) held fuel 22 [v] = some x) : ∃ (cs : List (List Int)) (a : Option Addr) (cap : Nat), v = .slice a cs.length cap ∧ RdSS W W.heap.size a cs := by
  have hs : ∃ a len cap, v = .slice a len cap := by
    rcases Go.Deep.open_int_rows Try.underlying22 Try.underlying31 Try.underlying3 (by kernel_rfl) (by kernel_rfl) hf with ⟨hcs, _⟩ | ⟨p, l, c, A, L, C, Z, hcs, _⟩
    · simp at hcs; exact ⟨_, _, _, hcs⟩
    · simp at hcs; exact ⟨_, _, _, hcs⟩
  obtain ⟨a, len, cap, rfl⟩ := hs
  obtain ⟨cs, rfl, h⟩ := rdss_open (len := len) (cap := cap) hf
  exact ⟨cs, a, cap, rfl, h⟩
theorem game_open {H : Type} {enc : TypeId × Value → H} {W : World} {base b0 : Nat} {r : Reach} {held : Bool} {v : Value} {d : DataW H} {p : List MemPlace}
    (hv : Value.okWide Try.prog W r b0 24 v) (h : DataW.Trod enc Try.prog W base (fun _ => true) held 24 v d p) :
    ∃ (gr : List (List Int)) (ar : Option Addr) (cr : Nat) (gc : List (List Int)) (ac : Option Addr) (cc : Nat), v = .agg #[.slice ar gr.length cr, .slice ac gc.length cc] ∧ RdSS W W.heap.size ar gr ∧ RdSS W W.heap.size ac gc := by
  obtain ⟨c0, c1, y0, y1, m, rfl, rfl, rfl, hy0, hy1⟩ := open_agg2 Try.underlying24 (by kernel_rfl) (by kernel_rfl) hv h
  obtain ⟨gr, ar, cr, rfl, hr⟩ := rdss_open1 hy0
  obtain ⟨gc, ac, cc, rfl, hc⟩ := rdss_open1 hy1
  exact ⟨gr, ar, cr, gc, ac, cc, rfl, hr, hc⟩
end Go.Proofs.Ytlkgmnmnlfaopaa
