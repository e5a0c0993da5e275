import Derived.Test.YtokhpchnnilbaaaDb0
namespace Go.Proofs.Ytokhpchnnilbaaa
open Go.RowKit
set_option maxRecDepth 4000
namespace Tk
def okW (w : List SP) : Bool := decide ((w.map Prod.fst).Nodup)
theorem okW_iff {w : List SP} : okW w = true ↔ (w.map Prod.fst).Nodup := by simp [okW]
/-- Labels of signed sets of places below n. -/
structure Lab (n : Nat) (lam : List SP → Int) : Prop where
  perm : ∀ w w', w.Perm w' → lam w = lam w'
  nz : ∀ w, okW w = true → w ≠ [] → (∀ p ∈ w, p.1 < n) → lam w ≠ 0
  neg : ∀ w, okW w = true → w ≠ [] → (∀ p ∈ w, p.1 < n) → lam (negW w) = - lam w
  opp : ∀ u v, okW (u ++ v) = true → u ≠ [] → (∀ p ∈ u ++ v, p.1 < n) → lam u + lam (u ++ v) ≠ 0
def labsF (lam : List SP → Int) : List SP → List SP → List Int
  | _, [] => []
  | u, a :: w => lam (u ++ [a]) :: labsF lam (u ++ [a]) w
def labs (lam : List SP → Int) (w : List SP) : List Int := labsF lam [] w
theorem labsF_len (lam : List SP → Int) : ∀ (w u : List SP), (labsF lam u w).length = w.length
  | [], _ => rfl
  | a :: w, u => by simp [labsF, labsF_len lam w]
theorem labsF_app (lam : List SP → Int) : ∀ (w v u : List SP), labsF lam u (w ++ v) = labsF lam u w ++ labsF lam (u ++ w) v
  | [], v, u => by simp [labsF]
  | a :: w, v, u => by simp [labsF, labsF_app lam w v]
theorem labsF_perm {lam : List SP → Int} (hp : ∀ w w', w.Perm w' → lam w = lam w') : ∀ (w u u' : List SP), u.Perm u' → labsF lam u w = labsF lam u' w
  | [], _, _, _ => rfl
  | a :: w, u, u', h => by
    simp only [labsF]
    rw [hp _ _ (h.append_right [a]), labsF_perm hp w _ _ (h.append_right [a])]
theorem labsF_mem {lam : List SP → Int} : ∀ (w u : List SP) (x : Int), x ∈ labsF lam u w → ∃ v r, w = v ++ r ∧ v ≠ [] ∧ x = lam (u ++ v)
  | [], _, _, h => by simp [labsF] at h
  | a :: w, u, x, h => by
    rcases List.mem_cons.1 h with rfl | h
    · exact ⟨[a], w, rfl, by simp, rfl⟩
    · obtain ⟨v, r, rfl, hv, rfl⟩ := labsF_mem w _ x h
      exact ⟨a :: v, r, rfl, by simp, by simp⟩
theorem okW_pre {u v : List SP} (h : okW (u ++ v) = true) : okW u = true := by
  rw [okW_iff] at h ⊢
  rw [List.map_append] at h
  exact (List.nodup_append.1 h).1
theorem pre_cmp : ∀ (v r v' r' : List SP), v ++ r = v' ++ r' → (∃ t, v' = v ++ t) ∨ ∃ t, v = v' ++ t
  | [], _, v', _, _ => .inl ⟨v', rfl⟩
  | a :: v, _, [], _, _ => .inr ⟨a :: v, rfl⟩
  | a :: v, r, b :: v', r', h => by
    simp only [List.cons_append, List.cons.injEq] at h
    obtain ⟨rfl, h⟩ := h
    rcases pre_cmp v r v' r' h with ⟨t, rfl⟩ | ⟨t, rfl⟩
    · exact .inl ⟨t, rfl⟩
    · exact .inr ⟨t, rfl⟩
theorem labs_noOpp {n : Nat} {lam : List SP → Int} (L : Lab n lam) (w : List SP) (hw : okW w = true) (hp : ∀ p ∈ w, p.1 < n) : NoOpp (labs lam w) := by
  constructor
  · intro x hx
    obtain ⟨v, r, rfl, hv, rfl⟩ := labsF_mem _ _ _ hx
    exact L.nz v (okW_pre hw) hv (fun p h => hp p (by simp [h]))
  · intro x hx y hy
    obtain ⟨v, r, e, hv, rfl⟩ := labsF_mem _ _ _ hx
    obtain ⟨v', r', e', hv', rfl⟩ := labsF_mem _ _ _ hy
    simp only [List.nil_append]
    rcases pre_cmp v r v' r' (e.symm.trans e') with ⟨t, rfl⟩ | ⟨t, rfl⟩
    · rw [e'] at hw hp
      exact L.opp v t (okW_pre hw) hv (fun p h => hp p (List.mem_append_left _ h))
    · rw [e] at hw hp
      rw [Int.add_comm]
      exact L.opp v' t (okW_pre hw) hv' (fun p h => hp p (List.mem_append_left _ h))
theorem negW_fst (w : List SP) : (negW w).map Prod.fst = w.map Prod.fst := by simp [negW]
theorem okW_neg (w : List SP) : okW (negW w) = okW w := by simp only [okW, negW_fst]
theorem labsF_neg {n : Nat} {lam : List SP → Int} (L : Lab n lam) : ∀ (w u : List SP), okW (u ++ w) = true → (∀ p ∈ u ++ w, p.1 < n) → labsF lam (negW u) (negW w) = (labsF lam u w).map (fun x => -x)
  | [], _, _, _ => rfl
  | a :: w, u, hw, hp => by
    have e1 : u ++ a :: w = (u ++ [a]) ++ w := by simp
    rw [e1] at hw hp
    have e2 : negW u ++ [(a.1, !a.2)] = negW (u ++ [a]) := by simp [negW]
    have := labsF_neg L w (u ++ [a]) hw hp
    show lam (negW u ++ [(a.1, !a.2)]) :: labsF lam (negW u ++ [(a.1, !a.2)]) (negW w) = _
    rw [e2, this, L.neg (u ++ [a]) (okW_pre hw) (by simp) (fun p h => hp p (List.mem_append_left _ h))]
    rfl
theorem insA_neg (a : Int) : ∀ l, insA (-a) (l.map (fun x => -x)) = (insA a l).map (fun x => -x)
  | [] => rfl
  | x :: t => by
    simp only [List.map_cons, insA, Int.natAbs_neg]
    split
    · simp
    · simp [insA_neg a t]
theorem srt_neg : ∀ l, srt (l.map (fun x => -x)) = (srt l).map (fun x => -x)
  | [] => rfl
  | a :: t => by simp only [List.map_cons, srt, srt_neg t, insA_neg]
theorem altA_neg : ∀ (l : List Int) (s : Bool) (b : Nat), (∀ x ∈ l, x ≠ 0) → altA s b (l.map (fun x => -x)) = altA (!s) b l
  | [], _, _, _ => rfl
  | a :: t, s, b, h => by
    simp only [List.map_cons, altA_cons, Int.natAbs_neg]
    rw [altA_neg t _ _ (fun x hx => h x (by simp [hx]))]
    have h0 := h a (by simp)
    have e : (pos (-a) == s) = (pos a == !s) := by
      have : pos (-a) = !pos a := by
        unfold pos
        by_cases h : 0 < a
        · simp [h]; omega
        · simp [h]; omega
      rw [this]
      cases pos a <;> cases s <;> rfl
    rw [e]
theorem altM_neg (l : List Int) (h : ∀ x ∈ l, x ≠ 0) : altM (l.map (fun x => -x)) = altP l := by
  unfold altM altP
  rw [srt_neg, altA_neg _ _ _ (fun x hx => h x ((srt_perm l).mem_iff.1 hx))]
  rfl
theorem xs_map {α β : Type} (A : List α) (f : α → β) (g : β → Bool) : xs (A.map f) g = xs A (fun a => g (f a)) := by
  induction A with
  | nil => rfl
  | cons a A ih => simp only [List.map_cons, xs_cons, ih]
theorem drops_idx (f : List Int → Bool) : ∀ l : List Int, drops f l = xs (List.range l.length) (fun j => f (l.eraseIdx j))
  | [] => rfl
  | a :: t => by
    simp only [drops, List.length_cons, List.range_succ_eq_map, xs_cons, xs_map, List.eraseIdx_cons_zero, List.eraseIdx_cons_succ]
    rw [drops_idx (fun r => f (a :: r)) t]
theorem xs_and {α : Type} (A : List α) (c : Bool) (g : α → Bool) : (c && xs A g) = xs A (fun a => c && g a) := by
  cases c
  · simp only [Bool.false_and]; exact (xs_false _ _ (fun _ _ => rfl)).symm
  · simp only [Bool.true_and]
/-- The greatest place is not there with a minus. -/
def hp (K : Nat) (w : List SP) : Bool := w.all (fun p => p != (K, false))
theorem nodup_le : ∀ (n : Nat) (l : List Nat), l.Nodup → (∀ x ∈ l, x < n) → l.length ≤ n
  | 0, l, _, h => by
    cases l with
    | nil => simp
    | cons a l => exact absurd (h a (by simp)) (by omega)
  | n + 1, l, hd, h => by
    by_cases hn : n ∈ l
    · have h1 := nodup_le n (l.erase n) (hd.erase n) (fun x hx => by
        have hx' := (List.Nodup.mem_erase_iff hd).1 hx
        have := h x hx'.2
        have := hx'.1
        omega)
      rw [List.length_erase_of_mem hn] at h1
      have : 0 < l.length := List.length_pos_of_mem hn
      omega
    · have := nodup_le n l hd (fun x hx => by
        have := h x hx
        have hne : x ≠ n := fun e => hn (e ▸ hx)
        omega)
      omega
theorem hp_neg (K : Nat) (w : List SP) (hw : okW w = true) (hl : w.length = K + 1) (hb : ∀ p ∈ w, p.1 < K + 1) : hp K (negW w) = !hp K w := by
  have hnd := okW_iff.1 hw
  have hK : K ∈ w.map Prod.fst := by
    apply Classical.byContradiction
    intro hn
    have := nodup_le K (w.map Prod.fst) hnd (fun x hx => by
      obtain ⟨p, hp, rfl⟩ := List.mem_map.1 hx
      have h1 := hb p hp
      have h2 : p.1 ≠ K := fun e => hn (e ▸ List.mem_map_of_mem hp)
      omega)
    rw [List.length_map] at this
    omega
  obtain ⟨⟨c, s⟩, hp', rfl⟩ := List.mem_map.1 hK
  -- only one sign is there
  have one : ∀ s', (c, s') ∈ w → s' = s := by
    intro s' hs'
    apply Classical.byContradiction
    intro hne
    obtain ⟨x, y, rfl⟩ := List.append_of_mem hp'
    rw [List.map_append, List.map_cons, List.nodup_append, List.nodup_cons] at hnd
    obtain ⟨h1, ⟨h2, h3⟩, h4⟩ := hnd
    rcases List.mem_append.1 hs' with h | h
    · exact h4 c (List.mem_map.2 ⟨_, h, rfl⟩) c (by simp) rfl
    · rcases List.mem_cons.1 h with e | h
      · exact hne (by cases e; rfl)
      · exact h2 (List.mem_map.2 ⟨_, h, rfl⟩)
  cases s
  · have e1 : hp c w = false := by
      simp only [hp, List.all_eq_false]
      exact ⟨(c, false), hp', by simp⟩
    have e2 : hp c (negW w) = true := by
      simp only [hp, List.all_eq_true, negW]
      intro p hp2
      obtain ⟨⟨d, s'⟩, hq, rfl⟩ := List.mem_map.1 hp2
      simp only [bne_iff_ne, ne_eq, Prod.mk.injEq, not_and]
      rintro rfl h
      have := one s' hq
      rw [this] at h; cases h
    show hp c (negW w) = !hp c w
    rw [e1, e2]; rfl
  · have e1 : hp c w = true := by
      simp only [hp, List.all_eq_true]
      rintro ⟨d, s'⟩ hq
      simp only [bne_iff_ne, ne_eq, Prod.mk.injEq, not_and]
      rintro rfl h
      have := one s' hq
      rw [this] at h; cases h
    have e2 : hp c (negW w) = false := by
      simp only [hp, List.all_eq_false, negW]
      exact ⟨(c, false), List.mem_map.2 ⟨(c, true), hp', rfl⟩, by simp⟩
    show hp c (negW w) = !hp c w
    rw [e1, e2]; rfl
/-- How many chains alternate, modulo two. -/
def alpha (lam : List SP → Int) (K : Nat) : Bool := xw (alph K) K (fun w => okW w && altP (labs lam w))
def tot (lam : List SP → Int) (K : Nat) : Bool := xw (alph (K + 1)) (K + 1) (fun w => (okW w && hp K w) && drops altP (labs lam w))
theorem tot_up {n : Nat} {lam : List SP → Int} (L : Lab n lam) (K : Nat) (hK : K + 1 ≤ n) : tot lam K = alpha lam (K + 1) := by
  have e1 : tot lam K = xor (xw (alph (K + 1)) (K + 1) (fun w => (okW w && hp K w) && altP (labs lam w))) (xw (alph (K + 1)) (K + 1) (fun w => (okW w && hp K w) && altM (labs lam w))) := by
    rw [← xw_xor]
    apply xw_congr
    intro w hl hm
    cases ho : okW w
    · simp
    · have := drops_alt _ (labs_noOpp L w ho (fun p hp => by have := mem_alph.1 (hm p hp); omega))
      rw [this]
      cases hp K w <;> simp
  have e2 : xw (alph (K + 1)) (K + 1) (fun w => (okW w && hp K w) && altM (labs lam w)) = xw (alph (K + 1)) (K + 1) (fun w => (okW w && !hp K w) && altP (labs lam w)) := by
    rw [← xw_neg]
    apply xw_congr
    intro w hl hm
    rw [okW_neg]
    cases ho : okW w
    · simp
    · have hb : ∀ p ∈ w, p.1 < K + 1 := fun p hp => mem_alph.1 (hm p hp)
      have hbn : ∀ p ∈ w, p.1 < n := fun p hp => by have := hb p hp; omega
      rw [hp_neg K w ho hl hb]
      have hneg : labs lam (negW w) = (labs lam w).map (fun x => -x) := labsF_neg L w [] ho hbn
      rw [hneg, altM_neg _ (labs_noOpp L w ho hbn).1]
  rw [e1, e2, ← xw_xor]
  apply xw_congr
  intro w _ _
  cases okW w <;> cases hp K w <;> simp
theorem okW_swap (u : List SP) (a b : SP) (v : List SP) : okW (u ++ a :: b :: v) = okW (u ++ b :: a :: v) := by
  have p : ((u ++ a :: b :: v).map Prod.fst).Perm ((u ++ b :: a :: v).map Prod.fst) := (List.Perm.append_left u (.swap b a v)).map _
  simp only [okW, p.nodup_iff]
theorem tot_down {n : Nat} {lam : List SP → Int} (L : Lab n lam) (K : Nat) : tot lam K = alpha lam K := by
  have e1 : tot lam K = xs (List.range (K + 1)) (fun j => xw (alph (K + 1)) (K + 1) (fun w => (okW w && hp K w) && altP ((labs lam w).eraseIdx j))) := by
    rw [← xw_xs]
    apply xw_congr
    intro w hl _
    rw [drops_idx, xs_and, show (labs lam w).length = K + 1 from (labsF_len lam w []).trans hl]
  rw [e1, List.range_succ, xs_append, xs_cons, xs_nil, Bool.xor_false]
  have e2 : xs (List.range K) (fun j => xw (alph (K + 1)) (K + 1) (fun w => (okW w && hp K w) && altP ((labs lam w).eraseIdx j))) = false := by
    apply xs_false
    intro j hj
    have hj := List.mem_range.1 hj
    apply xw_swap _ j (K + 1) _ (by omega)
    · intro u a b v hu
      have h1 : hp K (u ++ a :: b :: v) = hp K (u ++ b :: a :: v) := by
        simp only [hp, List.all_append, List.all_cons]
        cases (a != (K, false)) <;> cases (b != (K, false)) <;> simp
      have h2 : ∀ x y : SP, (labs lam (u ++ x :: y :: v)).eraseIdx j = labsF lam [] u ++ lam (u ++ [x] ++ [y]) :: labsF lam (u ++ [x] ++ [y]) v := by
        intro x y
        unfold labs
        rw [labsF_app]
        simp only [List.nil_append, labsF]
        rw [List.eraseIdx_append_of_length_le (by rw [labsF_len]; omega), labsF_len, hu, Nat.sub_self]
        rfl
      have hperm : (u ++ [a] ++ [b]).Perm (u ++ [b] ++ [a]) := by
        simp only [List.append_assoc, List.singleton_append]
        exact List.Perm.append_left u (.swap b a [])
      rw [okW_swap, h1, h2 a b, h2 b a, L.perm _ _ hperm, labsF_perm L.perm v _ _ hperm]
    · intro u a v hu
      have : okW (u ++ a :: a :: v) = false := by
        cases h : okW (u ++ a :: a :: v)
        · rfl
        · rw [okW_iff, List.map_append, List.nodup_append] at h
          have := h.2.1
          simp at this
      rw [this]; simp
  rw [e2, Bool.false_xor, xw_last]
  unfold alpha
  rw [← xw_less K K (fun w => okW w && altP (labs lam w))]
  apply xw_congr
  intro w hl hm
  have hb : ∀ p ∈ w, p.1 < K + 1 := fun p hp => mem_alph.1 (hm p hp)
  have h3 : ∀ a : SP, (labs lam (w ++ [a])).eraseIdx K = labs lam w := by
    intro a
    unfold labs
    rw [labsF_app, List.eraseIdx_append_of_length_le (by rw [labsF_len]; omega), labsF_len, hl, Nat.sub_self]
    simp [labsF]
  rw [xs_congr _ _ (fun a => (okW (w ++ [a]) && hp K (w ++ [a])) && altP (labs lam w)) (fun a _ => by rw [h3 a]), alph_succ, xs_append]
  have hs : ∀ (c : Nat) (s s' : Bool), okW (w ++ [(c, s)]) = okW (w ++ [(c, s')]) := fun c s s' => by simp [okW]
  have e3 : xs (alph K) (fun a => (okW (w ++ [a]) && hp K (w ++ [a])) && altP (labs lam w)) = false := by
    have gen : ∀ k, k ≤ K → xs (alph k) (fun a => (okW (w ++ [a]) && hp K (w ++ [a])) && altP (labs lam w)) = false := by
      intro k
      induction k with
      | zero => intro _; rfl
      | succ k ih =>
        intro hk
        rw [alph_succ, xs_append, ih (by omega), xs_cons, xs_cons, xs_nil]
        have h4 : ∀ s, hp K (w ++ [(k, s)]) = hp K w := fun s => by
          simp only [hp, List.all_append, List.all_cons, List.all_nil, Bool.and_true]
          have : ((k, s) != (K, false)) = true := by simp; omega
          rw [this, Bool.and_true]
        rw [h4, h4, hs k true false]
        simp
    exact gen K (Nat.le_refl _)
  rw [e3, xs_cons, xs_cons, xs_nil]
  have h5 : hp K (w ++ [(K, false)]) = false := by simp [hp]
  rw [h5]
  simp only [Bool.false_xor, Bool.and_false, Bool.false_and, Bool.xor_false]
  -- the greatest place with a plus at the end
  cases hno : noK K w
  · have : okW (w ++ [(K, true)]) = false := by
      simp only [noK, List.all_eq_false] at hno
      obtain ⟨p, hp1, hp2⟩ := hno
      have hp3 : p.1 = K := by simpa using hp2
      cases h : okW (w ++ [(K, true)])
      · rfl
      · rw [okW_iff, List.map_append, List.nodup_append] at h
        exact absurd rfl (h.2.2 K (List.mem_map.2 ⟨p, hp1, hp3⟩) K (by simp))
    rw [this]; simp
  · have h6 : okW (w ++ [(K, true)]) = okW w := by
      simp only [noK, List.all_eq_true] at hno
      rw [Bool.eq_iff_iff, okW_iff, okW_iff, List.map_append, List.nodup_append]
      constructor
      · exact fun h => h.1
      · intro h
        refine ⟨h, by simp, ?_⟩
        intro a ha b hb e
        obtain ⟨p, hp1, rfl⟩ := List.mem_map.1 ha
        simp at hb
        have := hno p hp1
        simp at this
        omega
    have h7 : hp K (w ++ [(K, true)]) = true := by
      simp only [noK, List.all_eq_true] at hno
      simp only [hp, List.all_eq_true]
      intro p hp1
      rcases List.mem_append.1 hp1 with h | h
      · have := hno p h
        simp only [bne_iff_ne, ne_eq] at this ⊢
        intro e
        rw [e] at this
        exact this rfl
      · rw [List.mem_singleton.1 h]; simp
    rw [h6, h7]; simp
theorem alpha_all {n : Nat} {lam : List SP → Int} (L : Lab n lam) : ∀ K, K ≤ n → alpha lam K = true
  | 0, _ => rfl
  | K + 1, h => by rw [← tot_up L K h, tot_down L K]; exact alpha_all L K (by omega)
/-- Tucker's lemma: there is a label of size n at least. -/
theorem tucker {n : Nat} {lam : List SP → Int} (L : Lab n lam) (hn : 1 ≤ n) : ∃ w, okW w = true ∧ w ≠ [] ∧ (∀ p ∈ w, p.1 < n) ∧ n ≤ (lam w).natAbs := by
  obtain ⟨w, hl, hm, hf⟩ := xw_some _ _ _ (alpha_all L n (Nat.le_refl n))
  simp only [Bool.and_eq_true] at hf
  have hlen : (srt (labs lam w)).length = n := by
    rw [(srt_perm _).length_eq]
    exact (labsF_len lam w []).trans hl
  obtain ⟨x, hx, hb⟩ := altA_big _ _ _ hf.2 (fun e => by rw [e] at hlen; simp at hlen; omega)
  obtain ⟨v, r, rfl, hv, rfl⟩ := labsF_mem _ _ _ ((srt_perm _).mem_iff.1 hx)
  exact ⟨v, okW_pre hf.1, hv, fun p hp => mem_alph.1 (hm p (by simp [hp])), by simpa [hlen] using hb⟩
end Tk
end Go.Proofs.Ytokhpchnnilbaaa
