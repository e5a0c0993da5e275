import Derived.Test.YtgpikaolgalpbaaZa
namespace Go.Proofs.Ytgpikaolgalpbaa
/-- A walk through doors comes to no room twice: each room that it leaves has two doors, each door is in two rooms at most, and the door at the beginning is in the first room alone. -/
theorem walk_inj {α : Type} (k : Nat → Nat) (d : Nat → α) (N : Nat) (mem : α → Nat → Prop)
    (hin : ∀ i, i ≤ N → mem (d i) (k i)) (hout : ∀ i, i < N → mem (d (i + 1)) (k i)) (hne : ∀ i, i < N → d (i + 1) ≠ d i) (hk : ∀ i, i < N → k (i + 1) ≠ k i)
    (htwo : ∀ i, i < N → ∀ e, mem e (k i) → e = d i ∨ e = d (i + 1)) (hcells : ∀ e a b c, mem e a → mem e b → mem e c → a ≠ b → a ≠ c → b = c)
    (hstart : ∀ a, mem (d 0) a → a = k 0) : ∀ j, j ≤ N → ∀ i, i < j → k i ≠ k j := by
  intro j
  induction j using Nat.strongRecOn with
  | _ j ih =>
    intro hj i hij he
    obtain ⟨m, rfl⟩ : ∃ m, j = m + 1 := ⟨j - 1, by omega⟩
    have hom := hout m (by omega)
    have hkm := hk m (by omega)
    have hmem := hin (m + 1) hj
    rw [← he] at hmem
    rcases htwo i (by omega) _ hmem with e | e
    · match i, hij, he, e, hmem with
      | 0, _, he, e, _ =>
        rw [e] at hom
        have := hstart _ hom
        exact hkm (by rw [this, he])
      | i + 1, hij, he, e, hmem =>
        have h1 := hout i (by omega)
        rw [e] at hom hmem
        have h2 := hcells (d (i + 1)) (k (i + 1)) (k m) (k i) hmem hom h1 (by rw [he]; exact hkm) (hk i (by omega))
        exact ih m (by omega) (by omega) i (by omega) h2.symm
    · have h1 := hin (i + 1) (by omega)
      rw [e] at hom hmem
      have h2 := hcells (d (i + 1)) (k i) (k m) (k (i + 1)) hmem hom h1 (by rw [he]; exact hkm) (fun h => hk i (by omega) h.symm)
      by_cases hlt : i + 1 < m
      · exact ih m (by omega) (by omega) (i + 1) hlt h2.symm
      · by_cases heq : i + 1 = m
        · subst heq
          exact hne (i + 1) (by omega) e
        · have : i = m := by omega
          subst this
          exact hkm (by rw [← he])
/-- .. so that it is no longer than there are rooms. -/
theorem inj_le : ∀ (M : Nat) (k : Nat → Nat) (N : Nat), (∀ i, i ≤ N → k i < M) → (∀ j, j ≤ N → ∀ i, i < j → k i ≠ k j) → N + 1 ≤ M
  | 0, k, N, hb, _ => absurd (hb 0 (Nat.zero_le _)) (Nat.not_lt_zero _)
  | M + 1, k, N, hb, hinj => by
    by_cases h : ∃ i, i ≤ N ∧ k i = M
    · obtain ⟨q, hq, hM⟩ := h
      match N, hb, hinj, hq with
      | 0, _, _, _ => omega
      | N + 1, hb, hinj, hq =>
        have hd : ∀ i, i ≤ N + 1 → i ≠ q → k i ≠ M := fun i hi hne e => by
          rcases Nat.lt_or_gt_of_ne hne with h | h
          · exact hinj q hq i h (by rw [e, hM])
          · exact hinj i hi q h (by rw [e, hM])
        have := inj_le M (fun i => if i < q then k i else k (i + 1)) N (fun i hi => by
          by_cases hlt : i < q
          · simp only [hlt, if_true]
            have h1 := hb i (by omega)
            have h2 := hd i (by omega) (by omega)
            omega
          · simp only [hlt, if_false]
            have h1 := hb (i + 1) (by omega)
            have h2 := hd (i + 1) (by omega) (by omega)
            omega) (fun j hj i hij => by
          by_cases h1 : i < q
          · by_cases h2 : j < q
            · simp only [h1, h2, if_true]; exact hinj j (by omega) i hij
            · simp only [h1, h2, if_true, if_false]; exact hinj (j + 1) (by omega) i (by omega)
          · have h2 : ¬ j < q := by omega
            simp only [h1, h2, if_false]; exact hinj (j + 1) (by omega) (i + 1) (by omega))
        omega
    · have := inj_le M k N (fun i hi => by
        have h1 := hb i hi
        have h2 : k i ≠ M := fun e => h ⟨i, hi, e⟩
        omega) hinj
      omega
end Go.Proofs.Ytgpikaolgalpbaa
