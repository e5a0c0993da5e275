import Derived.Test.YtjohjiknngagiaaK12
namespace Go.Proofs.Ytjohjiknngagiaa
open Go.RowKit
set_option maxRecDepth 4000
theorem least_of (P : Nat → Prop) : ∀ n, P n → ∃ m, P m ∧ ∀ k, k < m → ¬ P k := by
  intro n
  induction n using Nat.strongRecOn with
  | _ n ih =>
    intro h
    by_cases hk : ∃ k, k < n ∧ P k
    · obtain ⟨k, h1, h2⟩ := hk
      exact ih k h1 h2
    · exact ⟨n, h, fun k hk' hp => hk ⟨k, hk', hp⟩⟩
/-- No two clash; or these two are the first ones, one after the other. -/
def NoneOf (cl : Nat → Nat → Bool) (m : Nat) : Prop := ∀ i j, i < j → j < m → cl i j = false
structure FirstOf (cl : Nat → Nat → Bool) (m i j : Nat) : Prop where
  lt : i < j
  le : j < m
  yes : cl i j = true
  rows : ∀ i' j', i' < i → i' < j' → j' < m → cl i' j' = false
  row : ∀ j', i < j' → j' < j → cl i j' = false
def ResOf (cl : Nat → Nat → Bool) (m : Nat) : Option (Nat × Nat) → Prop
  | none => NoneOf cl m
  | some p => FirstOf cl m p.1 p.2
theorem res_some (cl : Nat → Nat → Bool) (m : Nat) : ∃ r, ResOf cl m r := by
  by_cases h : NoneOf cl m
  · exact ⟨none, h⟩
  · have h1 : ∃ i, ∃ j, i < j ∧ j < m ∧ cl i j = true := by
      refine Classical.byContradiction (fun hn => h (fun i j hij hj => ?_))
      cases hc : cl i j
      · rfl
      · exact absurd ⟨i, j, hij, hj, hc⟩ hn
    obtain ⟨i0, hi0⟩ := h1
    obtain ⟨i, ⟨j0, hj0⟩, hmin⟩ := least_of (fun i => ∃ j, i < j ∧ j < m ∧ cl i j = true) i0 hi0
    obtain ⟨j, ⟨hij, hj, hc⟩, hjm⟩ := least_of (fun j => i < j ∧ j < m ∧ cl i j = true) j0 hj0
    refine ⟨some (i, j), hij, hj, hc, fun i' j' h1 h2 h3 => ?_, fun j' h1 h2 => ?_⟩
    · cases hx : cl i' j'
      · rfl
      · exact absurd ⟨j', h2, h3, hx⟩ (hmin i' h1)
    · cases hx : cl i j'
      · rfl
      · exact absurd ⟨h1, Nat.lt_trans h2 hj, hx⟩ (hjm j' h2)
theorem res_found {cl : Nat → Nat → Bool} {m : Nat} {r : Option (Nat × Nat)} (h : ResOf cl m r) {i j : Nat} (h1 : i < j) (h2 : j < m) (h3 : cl i j = true)
    (h4 : ∀ i' j', i' < i → i' < j' → j' < m → cl i' j' = false) (h5 : ∀ j', i < j' → j' < j → cl i j' = false) : r = some (i, j) := by
  match r, h with
  | none, h => have := h i j h1 h2; rw [h3] at this; cases this
  | some (a, b), h =>
    have hy := h.yes
    have hab := h.lt
    have hbm := h.le
    simp only at hy hab hbm
    have e1 : a = i := by
      rcases Nat.lt_trichotomy a i with hlt | he | hgt
      · have := h4 a b hlt hab hbm; rw [hy] at this; cases this
      · exact he
      · have := h.rows i j hgt h1 h2; rw [h3] at this; cases this
    subst e1
    have e2 : b = j := by
      rcases Nat.lt_trichotomy b j with hlt | he | hgt
      · have := h5 b hab hlt; rw [hy] at this; cases this
      · exact he
      · have := h.row j h1 hgt; rw [h3] at this; cases this
    rw [e2]
theorem res_none {cl : Nat → Nat → Bool} {m : Nat} {r : Option (Nat × Nat)} (h : ResOf cl m r) (h4 : ∀ i' j', i' < m → i' < j' → j' < m → cl i' j' = false) : r = none := by
  match r, h with
  | none, _ => rfl
  | some (a, b), h =>
    have := h4 a b (Nat.lt_trans h.lt h.le) h.lt h.le
    have hy := h.yes
    simp only at hy
    rw [hy] at this; cases this
/-- Sets that are apart have equal colours. -/
def clS (l : List Nat) (cs : List Int) (i j : Nat) : Bool := decide (l.getD i 0 &&& l.getD j 0 = 0) && (cs.getD i 0 == cs.getD j 0)
def twoL (l : List Nat) : Option (Nat × Nat) → List Int
  | none => []
  | some p => [(l.getD p.1 0 : Nat), (l.getD p.2 0 : Nat)]
theorem own_two (w : World) (x y : Int) : OI (w.alloc (.cells #[.int .i64 x, .int .i64 y] 3)) w.heap.size (w.alloc (.cells #[.int .i64 x, .int .i64 y] 3)).heap.size (.slice (some ⟨w.heap.size, 0, none⟩) 2 2) [x, y] :=
  oi_new (own_block (xs := [x, y]) (Nat.le_refl _) (heap_alloc_new w _) rfl rfl (by simp [maxLen]))
end Go.Proofs.Ytjohjiknngagiaa
