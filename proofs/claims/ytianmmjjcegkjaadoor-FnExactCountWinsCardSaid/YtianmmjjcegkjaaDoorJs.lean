import Derived.Test.YtianmmjjcegkjaaDoorZa
namespace Go.Proofs.YtianmmjjcegkjaaDoor
/-- What a search over places turns on: how many there are, who is next to whom, which are open, which are free of cost, where ways begin and end. -/
structure Net where
  s : Nat
  nb : Nat → List Nat
  op : Nat → Bool
  own : Nat → Bool
  st : Nat → Bool
  fin : Nat → Bool
  hnb : ∀ i j, j ∈ nb i → j < s
namespace Net
variable (G : Net)
def cst (j : Nat) : Nat := if G.own j then 0 else 1
theorem cst_le (j : Nat) : G.cst j ≤ 1 := by unfold cst; split <;> omega
/-- A way to a place: its cost and its steps. -/
inductive Way : Nat → Nat → Nat → Prop
  | start (j : Nat) : j < G.s → G.st j = true → G.op j = true → Way j (G.cst j) 0
  | step (i j d t : Nat) : Way i d t → j ∈ G.nb i → G.op j = true → Way j (d + G.cst j) (t + 1)
theorem way_cost {G : Net} {j d t : Nat} (h : G.Way j d t) : d ≤ t + 1 := by
  induction h with
  | start j _ _ _ => have := G.cst_le j; omega
  | step i j d t _ _ _ ih => have := G.cst_le j; omega
theorem way_lt {G : Net} {j d t : Nat} (h : G.Way j d t) : j < G.s ∧ G.op j = true := by
  cases h with
  | start _ a _ b => exact ⟨a, b⟩
  | step i _ d t _ a b => exact ⟨G.hnb i j a, b⟩
/-- What the least cost of a way to the last line is. -/
def IsNeed : Option Nat → Prop
  | some k => (∃ i t, G.Way i k t ∧ t < G.s ∧ G.fin i = true) ∧ ∀ j d t, G.Way j d t → G.fin j = true → k ≤ d
  | none => ∀ j d t, G.Way j d t → G.fin j = false
theorem need_uniq {G : Net} {a b : Option Nat} (ha : G.IsNeed a) (hb : G.IsNeed b) : a = b := by
  cases a with
  | none =>
    cases b with
    | none => rfl
    | some k =>
      obtain ⟨⟨i, t, h, _, hf⟩, _⟩ := hb
      rw [ha i k t h] at hf
      cases hf
  | some k =>
    obtain ⟨⟨i, t, h, _, hf⟩, hm⟩ := ha
    cases b with
    | none =>
      rw [hb i k t h] at hf
      cases hf
    | some k' =>
      obtain ⟨⟨i', t', h', _, hf'⟩, hm'⟩ := hb
      have := hm i' k' t' h' hf'
      have := hm' i k t h hf
      congr 1
      omega
/-- A search under way. -/
structure Sp where
  seen : Nat → Bool
  now : List Nat
  later : List Nat
def cntF (f : Nat → Bool) : Nat → Nat
  | 0 => 0
  | k + 1 => cntF f k + (if f k then 1 else 0)
theorem cntF_le (f : Nat → Bool) : ∀ k, cntF f k ≤ k
  | 0 => Nat.le_refl _
  | k + 1 => by
    have := cntF_le f k
    unfold cntF
    split <;> omega
def upd (f : Nat → Bool) (j : Nat) : Nat → Bool := fun x => if x = j then true else f x
theorem cntF_upd (f : Nat → Bool) (j : Nat) (hj : f j = false) : ∀ k, cntF (upd f j) k = cntF f k + (if j < k then 1 else 0)
  | 0 => by simp [cntF]
  | k + 1 => by
    have ih := cntF_upd f j hj k
    unfold cntF
    rw [ih]
    by_cases h : k = j
    · subst h
      have e : upd f k k = true := by simp [upd]
      rw [e, hj, if_neg (Nat.lt_irrefl k), if_pos (Nat.lt_succ_self k)]
      simp
    · have e : upd f j k = f k := by simp [upd, h]
      rw [e]
      by_cases h2 : j < k
      · rw [if_pos h2, if_pos (show j < k + 1 by omega)]; omega
      · rw [if_neg h2, if_neg (show ¬ j < k + 1 by omega)]; omega
theorem cntF_pos (f : Nat → Bool) (j : Nat) (hj : f j = true) : ∀ k, j < k → 0 < cntF f k
  | 0, h => absurd h (Nat.not_lt_zero _)
  | k + 1, h => by
    unfold cntF
    by_cases e : j = k
    · subst e; rw [hj]; simp
    · have := cntF_pos f j hj k (by omega)
      omega
def come (σ : Sp) (j : Nat) : Sp := if σ.seen j || !G.op j then σ else ⟨upd σ.seen j, if G.own j then σ.now ++ [j] else σ.now, if G.own j then σ.later else σ.later ++ [j]⟩
def cnt (σ : Sp) : Nat := cntF σ.seen G.s
def Done (σ : Sp) (x : Nat) : Prop := σ.seen x = true ∧ x ∉ σ.now ∧ x ∉ σ.later
/-- What holds on a level; the place i is under work, and of its neighbours those of js are still to come. -/
structure Inv (σ : Sp) (k : Nat) (i : Nat) (js : List Nat) : Prop where
  a1 : ∀ j, j ∈ σ.now → σ.seen j = true ∧ ∃ t, G.Way j k t ∧ t < G.cnt σ
  a2 : ∀ j, j ∈ σ.later → σ.seen j = true ∧ G.own j = false ∧ ∃ t, G.Way j (k + 1) t ∧ t < G.cnt σ
  a3 : ∀ j d t, G.Way j d t → d < k → Done σ j
  a4 : ∀ x, Done σ x → ∀ j, j ∈ G.nb x → G.op j = true → σ.seen j = true ∨ (x = i ∧ j ∈ js)
  a5 : ∀ x, Done σ x → G.fin x = false
  a6 : ∀ j, j < G.s → G.st j = true → G.op j = true → σ.seen j = true
  a7 : ∀ x d t, G.Way x d t → d < k → ∀ j, j ∈ G.nb x → G.op j = true → j ∉ σ.later
  a8 : 0 < k → ∀ j, j < G.s → G.st j = true → G.op j = true → j ∉ σ.later
  a9 : js ≠ [] → (∀ d t, G.Way i d t → k ≤ d) ∧ (∃ t, G.Way i k t ∧ t < G.cnt σ) ∧ ∀ j, j ∈ js → j ∈ G.nb i
variable {G}
theorem come_inv {σ : Sp} {k i j : Nat} {js : List Nat} (I : G.Inv σ k i (j :: js)) : G.Inv (G.come σ j) k i js := by
  obtain ⟨hmin, ⟨ti, hwi, hti⟩, hjs⟩ := I.a9 (by simp)
  by_cases h : (σ.seen j || !G.op j) = true
  · have e : G.come σ j = σ := by unfold come; rw [if_pos h]
    rw [e]
    refine ⟨I.a1, I.a2, I.a3, fun x hx y hy ho => ?_, I.a5, I.a6, I.a7, I.a8, fun _ => ⟨hmin, ⟨ti, hwi, hti⟩, fun y hy => hjs y (List.mem_cons_of_mem _ hy)⟩⟩
    rcases I.a4 x hx y hy ho with hs | ⟨he, hm⟩
    · exact .inl hs
    · rcases List.mem_cons.1 hm with rfl | hm
      · rw [ho] at h
        left
        simpa using h
      · exact .inr ⟨he, hm⟩
  · have hs : σ.seen j = false := by
      cases hh : σ.seen j
      · rfl
      · rw [hh] at h; simp at h
    have ho : G.op j = true := by
      cases hh : G.op j
      · rw [hh] at h; simp at h
      · rfl
    have e : G.come σ j = ⟨upd σ.seen j, if G.own j then σ.now ++ [j] else σ.now, if G.own j then σ.later else σ.later ++ [j]⟩ := by unfold come; rw [if_neg h]
    have hjn : j ∈ G.nb i := hjs j (List.mem_cons_self ..)
    have hjs' := G.hnb i j hjn
    have hcnt : G.cnt (G.come σ j) = G.cnt σ + 1 := by
      rw [e]
      unfold cnt
      rw [cntF_upd σ.seen j hs, if_pos hjs']
    have hup : ∀ x, σ.seen x = true → (G.come σ j).seen x = true := fun x hx => by
      rw [e]; simp only [upd]; split
      · rfl
      · exact hx
    have hsj : (G.come σ j).seen j = true := by rw [e]; simp [upd]
    have hne : ∀ x, σ.seen x = true → x ≠ j := fun x hx he => by rw [he, hs] at hx; cases hx
    have hnow : ∀ x, x ∈ (G.come σ j).now → x ∈ σ.now ∨ (x = j ∧ G.own j = true) := fun x hx => by
      rw [e] at hx
      simp only at hx
      cases hw : G.own j
      · rw [hw] at hx; simp at hx; exact .inl hx
      · rw [hw] at hx; simp at hx; exact hx.imp_right fun h => ⟨h, rfl⟩
    have hlat : ∀ x, x ∈ (G.come σ j).later → x ∈ σ.later ∨ (x = j ∧ G.own j = false) := fun x hx => by
      rw [e] at hx
      simp only at hx
      cases hw : G.own j
      · rw [hw] at hx; simp at hx; exact hx.imp_right fun h => ⟨h, rfl⟩
      · rw [hw] at hx; simp at hx; exact .inl hx
    have hnow2 : ∀ x, x ∈ σ.now → x ∈ (G.come σ j).now := fun x hx => by
      rw [e]; simp only; split
      · exact List.mem_append_left _ hx
      · exact hx
    have hlat2 : ∀ x, x ∈ σ.later → x ∈ (G.come σ j).later := fun x hx => by
      rw [e]; simp only; split
      · exact hx
      · exact List.mem_append_left _ hx
    have hin : j ∈ (G.come σ j).now ∨ j ∈ (G.come σ j).later := by
      rw [e]; simp only
      cases hw : G.own j
      · right; simp
      · left; simp
    have hdone : ∀ x, Done (G.come σ j) x → Done σ x := fun x hx => by
      obtain ⟨h1, h2, h3⟩ := hx
      have hxj : x ≠ j := fun he => by
        subst he
        rcases hin with h | h
        · exact h2 h
        · exact h3 h
      refine ⟨?_, fun h => h2 (hnow2 x h), fun h => h3 (hlat2 x h)⟩
      rw [e] at h1
      simpa [upd, hxj] using h1
    have hdone2 : ∀ x, Done σ x → Done (G.come σ j) x := fun x ⟨h1, h2, h3⟩ => ⟨hup x h1, fun h => by
      rcases hnow x h with h | h
      · exact h2 h
      · exact hne x h1 h.1, fun h => by
      rcases hlat x h with h | h
      · exact h3 h
      · exact hne x h1 h.1⟩
    refine ⟨fun x hx => ?_, fun x hx => ?_, fun x d t hw hd => hdone2 x (I.a3 x d t hw hd), fun x hx y hy hoy => ?_, fun x hx => I.a5 x (hdone x hx), fun x h1 h2 h3 => hup x (I.a6 x h1 h2 h3), fun x d t hw hd y hy hoy hm => ?_, fun hk x h1 h2 h3 hm => ?_, fun _ => ⟨hmin, ⟨ti, hwi, by omega⟩, fun y hy => hjs y (List.mem_cons_of_mem _ hy)⟩⟩
    · rcases hnow x hx with h | ⟨rfl, hown⟩
      · obtain ⟨h1, t, h2, h3⟩ := I.a1 x h
        exact ⟨hup x h1, t, h2, by omega⟩
      · refine ⟨hsj, ti + 1, ?_, by omega⟩
        have := Way.step (G := G) i x k ti hwi hjn ho
        rwa [show G.cst x = 0 by simp [cst, hown]] at this
    · rcases hlat x hx with h | ⟨rfl, hown⟩
      · obtain ⟨h1, h2, t, h3, h4⟩ := I.a2 x h
        exact ⟨hup x h1, h2, t, h3, by omega⟩
      · refine ⟨hsj, hown, ti + 1, ?_, by omega⟩
        have := Way.step (G := G) i x k ti hwi hjn ho
        rwa [show G.cst x = 1 by simp [cst, hown]] at this
    · rcases I.a4 x (hdone x hx) y hy hoy with h | ⟨h1, h2⟩
      · exact .inl (hup y h)
      · rcases List.mem_cons.1 h2 with rfl | h2
        · exact .inl hsj
        · exact .inr ⟨h1, h2⟩
    · rcases hlat y hm with h | ⟨rfl, -⟩
      · exact I.a7 x d t hw hd y hy hoy h
      · rcases I.a4 x (I.a3 x d t hw hd) y hy hoy with h | ⟨rfl, -⟩
        · rw [hs] at h; cases h
        · have := hmin d t hw
          omega
    · rcases hlat x hm with h | ⟨rfl, -⟩
      · exact I.a8 hk x h1 h2 h3 h
      · rw [I.a6 x h1 h2 h3] at hs
        cases hs
theorem comes_inv {k i : Nat} : ∀ (js : List Nat) (σ : Sp), G.Inv σ k i js → G.Inv (js.foldl G.come σ) k i []
  | [], _, I => I
  | j :: js, σ, I => comes_inv js (G.come σ j) (come_inv I)
theorem inv_any {σ : Sp} {k i i' : Nat} (I : G.Inv σ k i []) : G.Inv σ k i' [] :=
  ⟨I.a1, I.a2, I.a3, fun x hx y hy ho => (I.a4 x hx y hy ho).imp_right fun h => absurd h.2 (by simp), I.a5, I.a6, I.a7, I.a8, fun h => absurd rfl h⟩
/-- One place is taken off the list, and its neighbours are to come. -/
theorem pop_inv {σ : Sp} {k i i' : Nat} {rest : List Nat} (I : G.Inv σ k i' []) (h : σ.now = i :: rest) (hf : G.fin i = false) : G.Inv ⟨σ.seen, rest, σ.later⟩ k i (G.nb i) := by
  have hin : i ∈ σ.now := by rw [h]; exact List.mem_cons_self ..
  have hsub : ∀ x, x ∈ rest → x ∈ σ.now := fun x hx => by rw [h]; exact List.mem_cons_of_mem _ hx
  have hd : ∀ x, Done ⟨σ.seen, rest, σ.later⟩ x → x = i ∨ Done σ x := fun x ⟨h1, h2, h3⟩ => by
    by_cases e : x = i
    · exact .inl e
    · exact .inr ⟨h1, fun hx => by rw [h] at hx; exact (List.mem_cons.1 hx).elim e h2, h3⟩
  refine ⟨fun j hj => I.a1 j (hsub j hj), I.a2, fun j d t hw hdk => ?_, fun x hx j hj ho => ?_, fun x hx => ?_, I.a6, I.a7, I.a8, fun _ => ⟨fun d t hw => ?_, (I.a1 i hin).2, fun j hj => hj⟩⟩
  · obtain ⟨h1, h2, h3⟩ := I.a3 j d t hw hdk
    exact ⟨h1, fun hx => h2 (hsub j hx), h3⟩
  · rcases hd x hx with rfl | hx
    · exact .inr ⟨rfl, hj⟩
    · exact .inl ((I.a4 x hx j hj ho).resolve_right (fun h => absurd h.2 (by simp)))
  · rcases hd x hx with rfl | hx
    · exact hf
    · exact I.a5 x hx
  · rcases Nat.lt_or_ge d k with hlt | hge
    · exact absurd hin (I.a3 i d t hw hlt).2.1
    · exact hge
/-- All places of ways of at most this cost are done when the list is empty. -/
theorem all_done {σ : Sp} {k i : Nat} (I : G.Inv σ k i []) (hn : σ.now = []) {j d t : Nat} (h : G.Way j d t) : d ≤ k → Done σ j := by
  induction h with
  | start j h1 h2 h3 =>
    intro hd
    refine ⟨I.a6 j h1 h2 h3, by rw [hn]; simp, fun hm => ?_⟩
    obtain ⟨-, ho, -⟩ := I.a2 j hm
    have hc : G.cst j = 1 := by simp [cst, ho]
    exact I.a8 (by omega) j h1 h2 h3 hm
  | step x j d t hw hj ho ih =>
    intro hd
    have hx := ih (by omega)
    have hs := (I.a4 x hx j hj ho).resolve_right (fun h => absurd h.2 (by simp))
    refine ⟨hs, by rw [hn]; simp, fun hm => ?_⟩
    obtain ⟨-, hown, -⟩ := I.a2 j hm
    have hc : G.cst j = 1 := by simp [cst, hown]
    exact I.a7 x d t hw (by omega) j hj ho hm
theorem swap_inv {σ : Sp} {k i : Nat} (I : G.Inv σ k i []) (hn : σ.now = []) : G.Inv ⟨σ.seen, σ.later, []⟩ (k + 1) i [] := by
  refine ⟨fun j hj => ⟨(I.a2 j hj).1, (I.a2 j hj).2.2⟩, fun j hj => absurd hj (by simp), fun j d t hw hd => ?_, fun x hx j hj ho => ?_, fun x hx => ?_, I.a6, fun _ _ _ _ _ j _ _ => by simp, fun _ j _ _ _ => by simp, fun h => absurd rfl h⟩
  · obtain ⟨h1, h2, h3⟩ := all_done I hn hw (by omega)
    exact ⟨h1, h3, by simp⟩
  · exact I.a4 x ⟨hx.1, by rw [hn]; simp, hx.2.1⟩ j hj ho
  · exact I.a5 x ⟨hx.1, by rw [hn]; simp, hx.2.1⟩
theorem found_need {σ : Sp} {k i i' : Nat} {rest : List Nat} (I : G.Inv σ k i' []) (h : σ.now = i :: rest) (hf : G.fin i = true) : G.IsNeed (some k) := by
  have hin : i ∈ σ.now := by rw [h]; exact List.mem_cons_self ..
  obtain ⟨-, t, hw, ht⟩ := I.a1 i hin
  refine ⟨⟨i, t, hw, Nat.lt_of_lt_of_le ht (cntF_le _ _), hf⟩, fun j d t hw hj => ?_⟩
  rcases Nat.lt_or_ge d k with hlt | hge
  · rw [I.a5 j (I.a3 j d t hw hlt)] at hj
    cases hj
  · exact hge
theorem none_need {σ : Sp} {k i : Nat} (I : G.Inv σ k i []) (hn : σ.now = []) (hl : σ.later = []) : G.IsNeed none := by
  intro j d t h
  refine I.a5 j ?_
  induction h with
  | start j h1 h2 h3 => exact ⟨I.a6 j h1 h2 h3, by rw [hn]; simp, by rw [hl]; simp⟩
  | step x j d t hw hj ho ih => exact ⟨(I.a4 x ih j hj ho).resolve_right (fun h => absurd h.2 (by simp)), by rw [hn]; simp, by rw [hl]; simp⟩
variable (G) in
/-- The search begins. -/
def beg : Nat → Sp
  | 0 => ⟨fun _ => false, [], []⟩
  | i + 1 => if G.st i then G.come (beg i) i else beg i
structure BInv (σ : Sp) (m : Nat) : Prop where
  b0 : ∀ x, σ.seen x = true → x < G.s ∧ (x ∈ σ.now ∨ x ∈ σ.later)
  b1 : ∀ j, j ∈ σ.now → σ.seen j = true ∧ G.Way j 0 0
  b2 : ∀ j, j ∈ σ.later → σ.seen j = true ∧ G.own j = false ∧ G.Way j 1 0
  b6 : ∀ j, j < m → G.st j = true → G.op j = true → σ.seen j = true
theorem beg_inv : ∀ m, m ≤ G.s → BInv (G := G) (G.beg m) m
  | 0, _ => ⟨fun x h => by simp [beg] at h, fun j h => by simp [beg] at h, fun j h => by simp [beg] at h, fun j h => absurd h (Nat.not_lt_zero _)⟩
  | m + 1, hm => by
    have I := beg_inv m (by omega)
    unfold beg
    cases hst : G.st m
    · simp only [Bool.false_eq_true, if_false]
      refine ⟨I.b0, I.b1, I.b2, fun j hj h1 h2 => ?_⟩
      rcases Nat.lt_or_eq_of_le (Nat.le_of_lt_succ hj) with h | h
      · exact I.b6 j h h1 h2
      · rw [h, hst] at h1; cases h1
    · simp only [if_true]
      generalize G.beg m = σ at I
      unfold come
      split
      · rename_i h
        refine ⟨I.b0, I.b1, I.b2, fun j hj h1 h2 => ?_⟩
        rcases Nat.lt_or_eq_of_le (Nat.le_of_lt_succ hj) with h' | h'
        · exact I.b6 j h' h1 h2
        · rw [h'] at h2 ⊢
          rw [h2] at h
          simpa using h
      · rename_i h
        have hs : σ.seen m = false := by
          cases hh : σ.seen m
          · rfl
          · rw [hh] at h; simp at h
        have ho : G.op m = true := by
          cases hh : G.op m
          · rw [hh] at h; simp at h
          · rfl
        have hw := Way.start (G := G) m (by omega) hst ho
        refine ⟨fun x hx => ?_, fun j hj => ?_, fun j hj => ?_, fun j hj h1 h2 => ?_⟩
        · simp only [upd] at hx
          by_cases e : x = m
          · subst e
            refine ⟨by omega, ?_⟩
            cases hown : G.own x
            · right; simp
            · left; simp
          · rw [if_neg e] at hx
            obtain ⟨h1, h2⟩ := I.b0 x hx
            refine ⟨h1, ?_⟩
            rcases h2 with h2 | h2
            · left
              simp only; split
              · exact List.mem_append_left _ h2
              · exact h2
            · right
              simp only; split
              · exact h2
              · exact List.mem_append_left _ h2
        · cases hown : G.own m
          · rw [hown] at hj
            simp at hj
            obtain ⟨h1, h2⟩ := I.b1 j hj
            exact ⟨by simp only [upd]; split <;> first | rfl | exact h1, h2⟩
          · rw [hown] at hj
            simp at hj
            rcases hj with hj | rfl
            · obtain ⟨h1, h2⟩ := I.b1 j hj
              exact ⟨by simp only [upd]; split <;> first | rfl | exact h1, h2⟩
            · rw [show G.cst j = 0 by simp [cst, hown]] at hw
              exact ⟨by simp [upd], hw⟩
        · cases hown : G.own m
          · rw [hown] at hj
            simp at hj
            rcases hj with hj | rfl
            · obtain ⟨h1, h2, h3⟩ := I.b2 j hj
              exact ⟨by simp only [upd]; split <;> first | rfl | exact h1, h2, h3⟩
            · rw [show G.cst j = 1 by simp [cst, hown]] at hw
              exact ⟨by simp [upd], hown, hw⟩
          · rw [hown] at hj
            simp at hj
            obtain ⟨h1, h2, h3⟩ := I.b2 j hj
            exact ⟨by simp only [upd]; split <;> first | rfl | exact h1, h2, h3⟩
        · rcases Nat.lt_or_eq_of_le (Nat.le_of_lt_succ hj) with h' | h'
          · have := I.b6 j h' h1 h2
            simp only [upd]; split
            · rfl
            · exact this
          · rw [h']; simp [upd]
theorem beg_ok : G.Inv (G.beg G.s) 0 0 [] := by
  have I := beg_inv (G := G) G.s (Nat.le_refl _)
  have hnd : ∀ x, ¬ Done (G.beg G.s) x := fun x ⟨h1, h2, h3⟩ => (I.b0 x h1).2.elim h2 h3
  refine ⟨fun j hj => ⟨(I.b1 j hj).1, 0, (I.b1 j hj).2, cntF_pos _ j (I.b1 j hj).1 _ (I.b0 j (I.b1 j hj).1).1⟩, fun j hj => ⟨(I.b2 j hj).1, (I.b2 j hj).2.1, 0, (I.b2 j hj).2.2, cntF_pos _ j (I.b2 j hj).1 _ (I.b0 j (I.b2 j hj).1).1⟩, fun _ _ _ _ h => absurd h (Nat.not_lt_zero _), fun x hx => absurd hx (hnd x), fun x hx => absurd hx (hnd x), fun j h => I.b6 j h, fun _ _ _ _ h => absurd h (Nat.not_lt_zero _), fun h => absurd h (Nat.lt_irrefl _), fun h => absurd rfl h⟩
variable (G) in
/-- What shrinks. -/
def mu (σ : Sp) : Nat := 3 * (G.s - G.cnt σ) + 2 * σ.later.length + σ.now.length
theorem come_mu (σ : Sp) (j : Nat) (hj : j < G.s) : G.mu (G.come σ j) ≤ G.mu σ := by
  unfold come
  split
  · exact Nat.le_refl _
  · rename_i h
    have hs : σ.seen j = false := by
      cases hh : σ.seen j
      · rfl
      · rw [hh] at h; simp at h
    have e := cntF_upd σ.seen j hs G.s
    rw [if_pos hj] at e
    have l := cntF_le (upd σ.seen j) G.s
    unfold mu cnt
    simp only
    rw [e] at l ⊢
    split <;> simp only [List.length_append, List.length_cons, List.length_nil] <;> omega
theorem comes_mu : ∀ (js : List Nat) (σ : Sp), (∀ j, j ∈ js → j < G.s) → G.mu (js.foldl G.come σ) ≤ G.mu σ
  | [], _, _ => Nat.le_refl _
  | j :: js, σ, h => Nat.le_trans (comes_mu js (G.come σ j) (fun x hx => h x (List.mem_cons_of_mem _ hx))) (come_mu σ j (h j (List.mem_cons_self ..)))
end Net
end Go.Proofs.YtianmmjjcegkjaaDoor
