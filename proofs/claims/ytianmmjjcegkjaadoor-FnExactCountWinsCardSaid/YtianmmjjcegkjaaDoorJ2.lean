import Derived.Test.YtianmmjjcegkjaaDoorJ1
namespace Go.Proofs.YtianmmjjcegkjaaDoor
open Go.RowKit
set_option maxRecDepth 4000
open Net
/-- A value first, then what is done with it. -/
def str2 {α : Type} (x : Nat) (f : Nat → α) : α := match x with | 0 => f 0 | k + 1 => f (k + 1)
theorem str2_eq {α : Type} (x : Nat) (f : Nat → α) : str2 x f = f x := by cases x <;> rfl
/-- The masks of the places of F, together. -/
def orN : List Nat → Nat → Nat → Nat
  | [], _, acc => acc
  | a :: l, F, acc => orN l (F / 2) (acc ||| a * (F % 2))
theorem orN_bit : ∀ (A : List Nat) (F acc j : Nat), (orN A F acc).testBit j = true ↔ acc.testBit j = true ∨ ∃ i, i < A.length ∧ F.testBit i = true ∧ (A.getD i 0).testBit j = true
  | [], F, acc, j => by simp [orN]
  | a :: l, F, acc, j => by
    have ha : (a * (F % 2)).testBit j = true ↔ F.testBit 0 = true ∧ a.testBit j = true := by
      rw [Nat.testBit_zero]
      rcases (by omega : F % 2 = 0 ∨ F % 2 = 1) with h | h <;> simp [h]
    rw [orN, orN_bit l (F / 2) _ j, Nat.testBit_or, Bool.or_eq_true, ha]
    constructor
    · rintro ((h | ⟨h0, h⟩) | ⟨i, hi, h1, h2⟩)
      · exact .inl h
      · exact .inr ⟨0, by simp, h0, by simpa using h⟩
      · exact .inr ⟨i + 1, by simpa using hi, by rw [Nat.testBit_succ]; exact h1, by simpa using h2⟩
    · rintro (h | ⟨i, hi, h1, h2⟩)
      · exact .inl (.inl h)
      · cases i with
        | zero => exact .inl (.inr ⟨h1, by simpa using h2⟩)
        | succ i => exact .inr ⟨i, by simpa using hi, by rw [Nat.testBit_succ] at h1; exact h1, by simpa using h2⟩
def stepF (A : List Nat) (B F : Nat) : Nat := F ||| (orN A F 0 &&& B)
theorem stepF_bit (A : List Nat) (B F j : Nat) : (stepF A B F).testBit j = true ↔ F.testBit j = true ∨ ((∃ i, i < A.length ∧ F.testBit i = true ∧ (A.getD i 0).testBit j = true) ∧ B.testBit j = true) := by
  unfold stepF
  rw [Nat.testBit_or, Nat.testBit_and, Bool.or_eq_true, Bool.and_eq_true, orN_bit]
  simp
def flood (A : List Nat) (B : Nat) : Nat → Nat → Nat
  | 0, F => F
  | k + 1, F => str2 (stepF A B F) fun F' => flood A B k F'
theorem flood_way {G : Net} {A : List Nat} {B : Nat} (hA : ∀ i j, (A.getD i 0).testBit j = true → j ∈ G.nb i) (hB : ∀ j, B.testBit j = true → G.op j = true) (ho : ∀ j, B.testBit j = true → G.cst j = 0) :
    ∀ (k F t : Nat), (∀ j, F.testBit j = true → ∃ u, u ≤ t ∧ G.Way j 0 u) → ∀ j, (flood A B k F).testBit j = true → ∃ u, u ≤ t + k ∧ G.Way j 0 u
  | 0, F, t, h, j, hj => h j hj
  | k + 1, F, t, h, j, hj => by
    rw [flood, str2_eq] at hj
    obtain ⟨u, hu, hw⟩ := flood_way hA hB ho k (stepF A B F) (t + 1) (fun j hj => by
      rcases (stepF_bit A B F j).1 hj with h1 | ⟨⟨i, _, h1, h2⟩, h3⟩
      · obtain ⟨u, hu, hw⟩ := h j h1
        exact ⟨u, by omega, hw⟩
      · obtain ⟨u, hu, hw⟩ := h i h1
        have hop := hB j h3
        have hc : G.cst j = 0 := ho j h3
        have := Way.step i j 0 u hw (hA i j h2) hop
        rw [hc] at this
        exact ⟨u + 1, by omega, this⟩) j hj
    exact ⟨u, by omega, hw⟩
theorem closed_way {G : Net} {A : List Nat} {B F : Nat} (hA : ∀ i j, i < G.s → j ∈ G.nb i → i < A.length ∧ (A.getD i 0).testBit j = true) (hB : ∀ j, j < G.s → G.op j = true → B.testBit j = true)
    (h0 : ∀ j, j < G.s → G.st j = true → G.op j = true → F.testBit j = true) (hc : stepF A B F = F) {j d t : Nat} (h : G.Way j d t) : F.testBit j = true := by
  induction h with
  | start j a b c => exact h0 j a b c
  | step i j d t hw hn hop ih =>
    have hi := (way_lt hw).1
    rw [← hc, stepF_bit]
    exact .inr ⟨⟨i, (hA i j hi hn).1, ih, (hA i j hi hn).2⟩, hB j (G.hnb i j hn) hop⟩
theorem flood_grow {A : List Nat} {B : Nat} : ∀ (k F j : Nat), F.testBit j = true → (flood A B k F).testBit j = true
  | 0, F, j, h => h
  | k + 1, F, j, h => by
    rw [flood, str2_eq]
    exact flood_grow k _ j ((stepF_bit A B F j).2 (.inl h))
def maskOf (f : Nat → Bool) : Nat → Nat
  | 0 => 0
  | s + 1 => maskOf f s ||| 2 ^ s * (f s).toNat
theorem maskOf_bit (f : Nat → Bool) : ∀ s j, (maskOf f s).testBit j = (decide (j < s) && f j)
  | 0, j => by simp [maskOf]
  | s + 1, j => by
    rw [maskOf, Nat.testBit_or, maskOf_bit f s j]
    have h : (2 ^ s * (f s).toNat).testBit j = (decide (s = j) && f s) := by
      cases f s
      · simp
      · simp [Nat.testBit_two_pow]
    rw [h]
    by_cases e : s = j
    · subst e; simp
    · have : (decide (j < s + 1)) = decide (j < s) := by rw [Bool.eq_iff_iff]; simp; omega
      rw [this]; simp [e]
/-- A full board's search: one player's places are B. -/
theorem need_flood {G : Net} {A : List Nat} {B : Nat} (ho : ∀ j, B.testBit j = true → G.cst j = 0) (hs : 1 ≤ G.s)
    (hA : ∀ i j, i < G.s → ((A.getD i 0).testBit j = true ↔ j ∈ G.nb i)) (hAl : A.length = G.s) (hB : ∀ j, B.testBit j = true ↔ j < G.s ∧ G.op j = true)
    (hc : stepF A B (flood A B (G.s - 1) (maskOf G.st G.s &&& B)) = flood A B (G.s - 1) (maskOf G.st G.s &&& B)) :
    (G.bst (G.itr G.s) G.s = 0) ↔ (flood A B (G.s - 1) (maskOf G.st G.s &&& B) &&& maskOf G.fin G.s) ≠ 0 := by
  have hw := flood_way (G := G) (A := A) (B := B) (fun i j h => by
    by_cases hi : i < G.s
    · exact (hA i j hi).1 h
    · rw [List.getD_eq_getElem?_getD, List.getElem?_eq_none (by omega)] at h; simp at h) (fun j h => ((hB j).1 h).2) ho (G.s - 1) (maskOf G.st G.s &&& B) 0 (fun j h => by
      rw [Nat.testBit_and, maskOf_bit, Bool.and_eq_true, Bool.and_eq_true] at h
      have hj := (hB j).1 h.2
      have := Way.start (G := G) j hj.1 h.1.2 hj.2
      have hz : G.cst j = 0 := ho j h.2
      rw [hz] at this
      exact ⟨0, Nat.le_refl _, this⟩)
  have hcl := fun j d t (h : G.Way j d t) => closed_way (G := G) (A := A) (B := B) (fun i j hi hn => ⟨by omega, (hA i j hi).2 hn⟩) (fun j h1 h2 => (hB j).2 ⟨h1, h2⟩) (fun j h1 h2 h3 => flood_grow _ _ j (by rw [Nat.testBit_and, maskOf_bit]; simp [h1, h2, (hB j).2 ⟨h1, h3⟩])) hc h
  generalize flood A B (G.s - 1) (maskOf G.st G.s &&& B) = F at *
  by_cases hF : F &&& maskOf G.fin G.s = 0
  · have hn : G.IsNeed none := fun j d t h => by
      have h1 := hcl j d t h
      have h2 : (F &&& maskOf G.fin G.s).testBit j = false := by rw [hF]; simp
      rw [Nat.testBit_and, h1, maskOf_bit] at h2
      simpa [(way_lt h).1] using h2
    have := (bst_need hn).1
    rw [this, hF]
    simp
  · obtain ⟨j, hj⟩ := Nat.exists_testBit_of_ne_zero hF
    rw [Nat.testBit_and, maskOf_bit, Bool.and_eq_true, Bool.and_eq_true] at hj
    obtain ⟨u, hu, hwy⟩ := hw j hj.1
    have hn : G.IsNeed (some 0) := ⟨⟨j, u, hwy, by omega, hj.2.2⟩, fun _ _ _ _ _ => Nat.zero_le _⟩
    have := (bst_need hn).1
    rw [this]
    simpa using hF
end Go.Proofs.YtianmmjjcegkjaaDoor
