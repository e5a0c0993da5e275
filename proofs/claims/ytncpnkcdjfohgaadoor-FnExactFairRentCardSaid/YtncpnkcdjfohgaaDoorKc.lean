import Derived.Test.YtncpnkcdjfohgaaDoorKa
import Derived.Deep.Matrix
namespace Go.Proofs.YtncpnkcdjfohgaaDoor
open Go.RowKit Go.ChangeShapes Go.WideShapes
set_option maxRecDepth 4000
/-- A slice of slices that came in, opened. -/
theorem rdss_open {H : Type} {enc : TypeId × Value → H} {W : World} {base : Nat} {held : Bool} {fuel : Nat} {a : Option Addr} {len cap : Nat} {x : DataW H × List MemPlace}
    (hf : DataW.trod enc Tryd.prog W base (fun _ => true) held fuel 22 (Value.slice a len cap).cells.toList = some x) : ∃ cs : List (List Int), len = cs.length ∧ RdSS W W.heap.size a cs := by
  rcases Go.Deep.open_int_rows Tryd.underlying22 Tryd.underlying29 Tryd.underlying3 (by kernel_rfl) (by kernel_rfl) hf with ⟨hcs, _⟩ | ⟨p, l, c, A, L, C, Z, hcs, _, hl, hm, _, hrow⟩
  · simp [Value.cells] at hcs
    obtain ⟨rfl, rfl, rfl⟩ := hcs
    exact ⟨[], rfl, by simp [maxLen], 0, 0, fun k hk => by simp at hk⟩
  · simp [Value.cells] at hcs
    obtain ⟨rfl, rfl, rfl⟩ := hcs
    have hg : ∀ k, k < len → ((List.range len).map (fun r => (Z r).take (L r))).getD k [] = (Z k).take (L k) := fun k hk => by
      rw [List.getD_eq_getElem?_getD, List.getElem?_map, List.getElem?_range hk]; rfl
    refine ⟨(List.range len).map (fun r => (Z r).take (L r)), by simp, by simp; omega, p.block, p.off, fun k hk => ?_⟩
    rw [List.length_map, List.length_range] at hk
    rw [hg k hk]
    have h0 := (hrow 0 (by omega)).1
    obtain ⟨h1, h2, h3, h4, h5, h6, h7⟩ := hrow k (by omega)
    have hlen : ((Z k).take (L k)).length = L k := by simp; omega
    have hsp := World.cell?_spot h0
    have hbl := World.block_lt_of_cell? W _ h0
    obtain ⟨b, off, spot⟩ := p
    have hspot : spot = none := by simpa [Addr.add] using hsp
    subst hspot
    refine ⟨rfl, by simpa [Addr.add] using hbl, A k, C k, by rw [hlen]; rw [show (Addr.add ⟨b, off, none⟩ k : Addr) = ⟨b, off + k, none⟩ from Addr.add_lit ..] at h1; exact h1, ?_⟩
    by_cases hL : L k = 0
    · refine ⟨0, 0, ⟨by rw [hlen, hL]; simp [maxLen], fun j hj => by rw [hlen, hL] at hj; omega⟩, .inl (by rw [hlen, hL])⟩
    · cases hA : A k with
      | none => exact absurd (h6 hA) (by omega)
      | some a' =>
        obtain ⟨-, hc⟩ := h7 a' hA
        have hc0 := hc 0 (by omega)
        have hsp := World.cell?_spot hc0
        have hbl := World.block_lt_of_cell? W _ hc0
        obtain ⟨b', off', spot'⟩ := a'
        have hspot : spot' = none := by simpa [Addr.add] using hsp
        subst hspot
        refine ⟨b', off', ⟨by rw [hlen]; omega, fun j hj => ⟨rfl, ?_⟩⟩, .inr (by simpa [Addr.add] using hbl)⟩
        rw [hlen] at hj
        have h := hc j (by omega)
        rw [show (Addr.add ⟨b', off', none⟩ j : Addr) = ⟨b', off' + j, none⟩ from Addr.add_lit ..] at h
        rw [h]
        simp [List.getD, hj]
end Go.Proofs.YtncpnkcdjfohgaaDoor
