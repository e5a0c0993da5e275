import Derived.Test.YtianmmjjcegkjaaDoorJs
namespace Go.Proofs.YtianmmjjcegkjaaDoor
namespace Net
variable (G : Net)
/-- The model's way: costs that are made less, round by round. -/
def ini (x : Nat) : Nat := if x < G.s ∧ G.st x = true ∧ G.op x = true then G.cst x else G.s + 1
def rl (F : Nat → Nat) (i j : Nat) : Nat → Nat := if G.op j then fun x => if x = j then min (F j) (F i + G.cst j) else F x else F
def rls (i : Nat) : List Nat → (Nat → Nat) → Nat → Nat
  | [], F => F
  | j :: js, F => rls i js (G.rl F i j)
def pas (F : Nat → Nat) : Nat → Nat → Nat
  | 0 => F
  | m + 1 => G.rls m (G.nb m) (pas F m)
def itr : Nat → Nat → Nat
  | 0 => G.ini
  | k + 1 => G.pas (itr k) G.s
def bst (F : Nat → Nat) : Nat → Nat
  | 0 => G.s + 1
  | m + 1 => if G.fin m then min (bst F m) (F m) else bst F m
variable {G}
def Sound (G : Net) (F : Nat → Nat) : Prop := ∀ j, F j ≤ G.s + 1 ∧ (F j ≤ G.s → ∃ t, G.Way j (F j) t)
theorem ini_sound : Sound G G.ini := fun j => by
  unfold ini
  split
  · rename_i h
    have := G.cst_le j
    exact ⟨by omega, fun _ => ⟨0, .start j h.1 h.2.1 h.2.2⟩⟩
  · exact ⟨Nat.le_refl _, fun h => by omega⟩
theorem rl_sound {F : Nat → Nat} (h : Sound G F) {i j : Nat} (hj : j ∈ G.nb i) : Sound G (G.rl F i j) := fun x => by
  unfold rl
  split
  · rename_i ho
    simp only
    split
    · rename_i e
      subst e
      have h1 := h x
      refine ⟨by omega, fun hle => ?_⟩
      rcases Nat.le_total (F x) (F i + G.cst x) with hm | hm
      · rw [Nat.min_eq_left hm] at hle ⊢
        exact h1.2 hle
      · rw [Nat.min_eq_right hm] at hle ⊢
        obtain ⟨t, hw⟩ := (h i).2 (by omega)
        exact ⟨t + 1, .step i x _ t hw hj ho⟩
    · exact h x
  · exact h x
theorem rls_sound {i : Nat} : ∀ (js : List Nat) {F : Nat → Nat}, Sound G F → (∀ j, j ∈ js → j ∈ G.nb i) → Sound G (G.rls i js F)
  | [], _, h, _ => h
  | j :: js, _, h, hs => rls_sound js (rl_sound h (hs j (List.mem_cons_self ..))) (fun x hx => hs x (List.mem_cons_of_mem _ hx))
theorem pas_sound {F : Nat → Nat} (h : Sound G F) : ∀ m, Sound G (G.pas F m)
  | 0 => h
  | m + 1 => rls_sound _ (pas_sound h m) (fun _ hx => hx)
theorem itr_sound : ∀ k, Sound G (G.itr k)
  | 0 => ini_sound
  | k + 1 => pas_sound (itr_sound k) _
theorem rl_mono (F : Nat → Nat) (i j x : Nat) : G.rl F i j x ≤ F x := by
  unfold rl
  split
  · simp only
    split
    · rename_i e; subst e; exact Nat.min_le_left _ _
    · exact Nat.le_refl _
  · exact Nat.le_refl _
theorem rls_mono (i : Nat) : ∀ (js : List Nat) (F : Nat → Nat) (x : Nat), G.rls i js F x ≤ F x
  | [], _, _ => Nat.le_refl _
  | j :: js, F, x => Nat.le_trans (rls_mono i js (G.rl F i j) x) (rl_mono F i j x)
theorem pas_mono (F : Nat → Nat) : ∀ m x, G.pas F m x ≤ F x
  | 0, _ => Nat.le_refl _
  | m + 1, x => Nat.le_trans (rls_mono m (G.nb m) (G.pas F m) x) (pas_mono F m x)
theorem rls_at (i : Nat) : ∀ (js : List Nat) (F : Nat → Nat) (j : Nat), j ∈ js → G.op j = true → G.rls i js F j ≤ F i + G.cst j
  | [], _, _, h, _ => by cases h
  | h :: js, F, j, hj, ho => by
    rcases List.mem_cons.1 hj with rfl | hj
    · refine Nat.le_trans (rls_mono i js (G.rl F i j) j) ?_
      unfold rl
      rw [if_pos ho]
      simp only [if_true]
      exact Nat.min_le_right _ _
    · refine Nat.le_trans (rls_at i js (G.rl F i h) j hj ho) ?_
      have := rl_mono (G := G) F i h i
      omega
theorem pas_at (F : Nat → Nat) : ∀ m i, i < m → ∀ j, j ∈ G.nb i → G.op j = true → G.pas F m j ≤ F i + G.cst j
  | 0, _, h, _, _, _ => absurd h (Nat.not_lt_zero _)
  | m + 1, i, h, j, hj, ho => by
    rcases Nat.lt_or_eq_of_le (Nat.le_of_lt_succ h) with h | rfl
    · exact Nat.le_trans (rls_mono m (G.nb m) (G.pas F m) j) (pas_at F m i h j hj ho)
    · refine Nat.le_trans (rls_at i (G.nb i) (G.pas F i) j hj ho) ?_
      have := pas_mono (G := G) F i i
      omega
theorem itr_mono : ∀ k x, G.itr k x ≤ G.ini x
  | 0, _ => Nat.le_refl _
  | k + 1, x => Nat.le_trans (pas_mono _ _ x) (itr_mono k x)
theorem itr_way {j d t : Nat} (h : G.Way j d t) : ∀ k, t ≤ k → G.itr k j ≤ d := by
  induction h with
  | start j h1 h2 h3 =>
    intro k _
    refine Nat.le_trans (itr_mono k j) ?_
    unfold ini
    rw [if_pos ⟨h1, h2, h3⟩]
    exact Nat.le_refl _
  | step i j d t hw hj ho ih =>
    intro k hk
    obtain ⟨k, rfl⟩ : ∃ q, k = q + 1 := ⟨k - 1, by omega⟩
    have a := ih k (by omega)
    have b := pas_at (G := G) (G.itr k) G.s i (way_lt hw).1 j hj ho
    show G.pas (G.itr k) G.s j ≤ _
    omega
theorem bst_le (F : Nat → Nat) : ∀ m j, j < m → G.fin j = true → G.bst F m ≤ F j
  | 0, _, h, _ => absurd h (Nat.not_lt_zero _)
  | m + 1, j, h, hf => by
    unfold bst
    rcases Nat.lt_or_eq_of_le (Nat.le_of_lt_succ h) with h | rfl
    · have := bst_le F m j h hf
      split <;> omega
    · rw [if_pos hf]; exact Nat.min_le_right _ _
theorem bst_is (F : Nat → Nat) : ∀ m, G.bst F m = G.s + 1 ∨ ∃ j, j < m ∧ G.fin j = true ∧ G.bst F m = F j
  | 0 => .inl rfl
  | m + 1 => by
    unfold bst
    have ih := bst_is F m
    split
    · rename_i hf
      rcases Nat.le_total (G.bst F m) (F m) with hm | hm
      · rw [Nat.min_eq_left hm]
        rcases ih with h | ⟨j, h1, h2, h3⟩
        · exact .inl h
        · exact .inr ⟨j, by omega, h2, h3⟩
      · rw [Nat.min_eq_right hm]
        exact .inr ⟨m, Nat.lt_succ_self _, hf, rfl⟩
    · rcases ih with h | ⟨j, h1, h2, h3⟩
      · exact .inl h
      · exact .inr ⟨j, by omega, h2, h3⟩
/-- The model's least cost. -/
theorem bst_need {o : Option Nat} (h : G.IsNeed o) : G.bst (G.itr G.s) G.s = o.getD (G.s + 1) ∧ ∀ k, o = some k → k ≤ G.s := by
  have S := itr_sound (G := G) G.s
  have hB := bst_is (G := G) (G.itr G.s) G.s
  cases o with
  | none =>
    refine ⟨?_, fun k hk => by cases hk⟩
    rcases hB with hB | ⟨j, h1, h2, h3⟩
    · exact hB
    · show _ = G.s + 1
      rw [h3]
      have hc := S j
      rcases Nat.lt_or_ge G.s (G.itr G.s j) with hlt | hge
      · omega
      · obtain ⟨t, hw⟩ := hc.2 hge
        rw [h j _ t hw] at h2
        cases h2
  | some k =>
    obtain ⟨⟨i, t, hw, ht, hf⟩, hmin⟩ := h
    have hks := way_cost hw
    have hF := itr_way hw G.s (by omega)
    have hle := bst_le (G := G) (G.itr G.s) G.s i (way_lt hw).1 hf
    refine ⟨?_, fun k' hk' => by cases hk'; omega⟩
    show _ = k
    rcases hB with hB | ⟨j, h1, h2, h3⟩
    · omega
    · rw [h3] at hle ⊢
      obtain ⟨t', hw'⟩ := (S j).2 (by omega)
      have := hmin j _ t' hw' h2
      omega
end Net
end Go.Proofs.YtianmmjjcegkjaaDoor
