import Derived.Test.YtncpnkcdjfohgaaDoorMd8
import Derived.Test.YtncpnkcdjfohgaaDoorKa
namespace Go.Proofs.YtncpnkcdjfohgaaDoor
open Go.RowKit
set_option maxRecDepth 4000
/-- The envy with the k-th sharing. -/
noncomputable def envK (W : Nat → Nat → Int) (k : Nat) : Int := Classical.choose (envy_exists W (shS k))
theorem envK_mx (W : Nat → Nat → Int) (k : Nat) : Mx (SN W (shS k) 3 0) (envK W k) := Classical.choose_spec (envy_exists W (shS k))
theorem envK_pos (W : Nat → Nat → Int) (k : Nat) : 0 ≤ envK W k := (envK_mx W k).1
theorem envK_le {W : Nat → Nat → Int} (hW : ∀ p, p < 3 → ∀ q, q < 3 → -1000 ≤ W p q ∧ W p q ≤ 1000) (k : Nat) (hk : k < 6) : envK W k ≤ 2000 := by
  obtain ⟨-, -, h⟩ := envK_mx W k
  rcases h with h | ⟨p, q, -, hp, hq, h⟩
  · omega
  · have h1 := hW p hp q hq
    have h2 := hW p hp (shS k p) (shS_lt k p hk hp)
    rw [h]
    show W p q - W p (shS k p) ≤ 2000
    omega
/-- All the deals, point by point, the least envy as the greatest. -/
noncomputable def dlF (W : Nat → Nat → Nat → Int) (m : Nat) : Int := -(envK (W (m / 6)) (m % 6))
theorem dlF_at (W : Nat → Nat → Nat → Int) (i k : Nat) (hk : k < 6) : dlF W (6 * i + k) = -(envK (W i) k) := by
  rw [dlF, show (6 * i + k) / 6 = i by omega, show (6 * i + k) % 6 = k by omega]
theorem dlF_neg (W : Nat → Nat → Nat → Int) (m : Nat) : dlF W m ≤ 0 := by
  have := envK_pos (W (m / 6)) (m % 6)
  unfold dlF; omega
theorem oi_up {w w' : World} {lo : Nat} {v : Value} {xs : List Int} (h : OI w lo w.heap.size v xs) (hb : Below w.heap.size w w') : OI w' lo w'.heap.size v xs := by
  obtain ⟨et, h1, h2⟩ := oi_keep h (chg_below hb) (Nat.le_refl _) (.inl (Nat.zero_le _))
  exact ⟨et, h1, fun k hk => Nat.lt_of_lt_of_le (h2 k hk) hb.size⟩
theorem alv_later {w w' : World} {B : Nat} (h : AlV w B) (hB : B + 7 ≤ w.heap.size) (hb : Below w.heap.size w w') : AlV w' B := fun k hk =>
  ⟨(hb.cell (p := ⟨B + 6, k, none⟩) (by show B + 6 < _; omega)).trans (h k hk).1, (hb.block (B + k) (by omega)).trans (h k hk).2⟩
/-- How the search for the least envy stands. -/
def DSt (f : Nat → Int) (w : World) (base M : Nat) (t l : Int) (v : Value) : Prop :=
  (M = 0 ∧ t = 0 ∧ l = -1 ∧ v = .slice none 0 0) ∨ ∃ j, IsB f M j ∧ t = ((j / 6 : Nat) : Int) ∧ l = -(f j) ∧ OI w base w.heap.size v (shL (j % 6))
theorem DSt.later {f : Nat → Int} {w w' : World} {base M : Nat} {t l : Int} {v : Value} (h : DSt f w base M t l v) (hb : Below w.heap.size w w') : DSt f w' base M t l v := by
  rcases h with h | ⟨j, h1, h2, h3, h4⟩
  · exact .inl h
  · exact .inr ⟨j, h1, h2, h3, oi_up h4 hb⟩
theorem DSt.up {f : Nat → Int} {w : World} {base M : Nat} {t l e : Int} {v s : Value} (hf : ∀ m, f m ≤ 0) (h : DSt f w base M t l v) (he : e = -(f M)) (hc : l < 0 ∨ e < l) (ho : OI w base w.heap.size s (shL (M % 6))) : DSt f w base (M + 1) ((M / 6 : Nat) : Int) e s := by
  rcases h with ⟨rfl, -, -, -⟩ | ⟨j, h1, h2, h3, -⟩
  · exact .inr ⟨0, IsB.one f, rfl, he, ho⟩
  · have := hf j
    have hs := h1.step
    rw [if_pos (by omega)] at hs
    exact .inr ⟨M, hs, rfl, he, ho⟩
theorem DSt.stay {f : Nat → Int} {w : World} {base M : Nat} {t l e : Int} {v : Value} (h : DSt f w base M t l v) (he : e = -(f M)) (hc : ¬ l < 0) (hc2 : ¬ e < l) : DSt f w base (M + 1) t l v := by
  rcases h with ⟨-, -, h, -⟩ | ⟨j, h1, h2, h3, h4⟩
  · omega
  · have hs := h1.step
    rw [if_neg (by omega)] at hs
    exact .inr ⟨j, hs, h2, h3, h4⟩
theorem DSt.done {f : Nat → Int} {w : World} {base M j : Nat} {t l : Int} {v : Value} (h : DSt f w base M t l v) (hj : IsB f M j) : t = ((j / 6 : Nat) : Int) ∧ l = -(f j) ∧ OI w base w.heap.size v (shL (j % 6)) := by
  rcases h with ⟨rfl, -⟩ | ⟨j', h1, h2, h3, h4⟩
  · exact absurd hj.1 (by omega)
  · obtain rfl := h1.uniq hj
    exact ⟨h2, h3, h4⟩
end Go.Proofs.YtncpnkcdjfohgaaDoor
