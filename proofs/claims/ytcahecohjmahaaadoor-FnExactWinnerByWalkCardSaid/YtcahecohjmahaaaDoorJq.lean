import Derived.Test.YtcahecohjmahaaaDoorJp
namespace Go.Proofs.YtcahecohjmahaaaDoor
theorem hinj_le : ∀ (M : Nat) (k : Nat → Nat) (N : Nat), (∀ i, i ≤ N → k i < M) → (∀ j, j ≤ N → ∀ i, i < j → k i ≠ k j) → N + 1 ≤ M
  | 0, k, N, hb, _ => absurd (hb 0 (Nat.zero_le _)) (Nat.not_lt_zero _)
  | M + 1, k, N, hb, hinj => by
    by_cases h : ∃ i, i ≤ N ∧ k i = M
    · obtain ⟨q, hq, hM⟩ := h
      match N, hb, hinj, hq with
      | 0, _, _, _ => omega
      | N + 1, hb, hinj, hq =>
        have hd : ∀ i, i ≤ N + 1 → i ≠ q → k i ≠ M := fun i hi hne e => by
          rcases Nat.lt_or_gt_of_ne hne with h | h
          · exact hinj q hq i h (by rw [e, hM])
          · exact hinj i hi q h (by rw [e, hM])
        have := hinj_le M (fun i => if i < q then k i else k (i + 1)) N (fun i hi => by
          by_cases hlt : i < q
          · simp only [hlt, if_true]
            have h1 := hb i (by omega)
            have h2 := hd i (by omega) (by omega)
            omega
          · simp only [hlt, if_false]
            have h1 := hb (i + 1) (by omega)
            have h2 := hd (i + 1) (by omega) (by omega)
            omega) (fun j hj i hij => by
          by_cases h1 : i < q
          · by_cases h2 : j < q
            · simp only [h1, h2, if_true]; exact hinj j (by omega) i hij
            · simp only [h1, h2, if_true, if_false]; exact hinj (j + 1) (by omega) i (by omega)
          · have h2 : ¬ j < q := by omega
            simp only [h1, h2, if_false]; exact hinj (j + 1) (by omega) (i + 1) (by omega))
        omega
    · have := hinj_le M k N (fun i hi => by
        have h1 := hb i hi
        have h2 : k i ≠ M := fun e => h ⟨i, hi, e⟩
        omega) hinj
      omega
/-- Where a walk on a board with its rim stands: its door, and the place left. -/
def hthr (n m : Int) (s : Int × Int × Int) : Option Int := (hxa n m s.1).find? (fun x => x != s.2.2 && decide (x ∈ hxa n m s.2.1))
def hnx (own : Int → Int) (s : Int × Int × Int) (x : Int) : Int × Int × Int := if own x = 1 then (x, s.2.1, s.1) else (s.1, x, s.2.1)
def hstep (n m : Int) (own : Int → Int) (s : Int × Int × Int) : Option (Int × Int × Int) := (hthr n m s).map (hnx own s)
def hst (n m : Int) (own : Int → Int) : Nat → Option (Int × Int × Int)
  | 0 => some (0, m, -1)
  | k + 1 => (hst n m own k).bind (hstep n m own)
structure HInv (n m : Int) (own : Int → Int) (s : Int × Int × Int) : Prop where
  ga : 0 ≤ s.1 / m ∧ s.1 / m ≤ n - 1
  gb : 0 ≤ s.2.1 / m ∧ s.2.1 / m ≤ n - 1
  ab : s.2.1 ∈ hxa n m s.1
  oa : own s.1 = 1
  ob : own s.2.1 = 2
  lf : (s.2.2 = -1 ∧ s.1 = 0 ∧ s.2.1 = m) ∨ (s.2.2 ∈ hxa n m s.1 ∧ s.2.2 ∈ hxa n m s.2.1)
section
variable {n m : Int} {own : Int → Int}
theorem hthr_some {s : Int × Int × Int} {x : Int} (h : hthr n m s = some x) : x ∈ hxa n m s.1 ∧ x ≠ s.2.2 ∧ x ∈ hxa n m s.2.1 := by
  have a := List.mem_of_find?_eq_some h
  have b := List.find?_some h
  simp only [Bool.and_eq_true, bne_iff_ne, ne_eq, decide_eq_true_eq] at b
  exact ⟨a, b.1, b.2⟩
theorem hthr_none {s : Int × Int × Int} (h : hthr n m s = none) (x : Int) (h1 : x ∈ hxa n m s.1) (h2 : x ∈ hxa n m s.2.1) : x = s.2.2 := by
  have a := List.find?_eq_none.1 h x h1
  simp only [Bool.and_eq_true, bne_iff_ne, ne_eq, decide_eq_true_eq] at a
  exact Classical.byContradiction fun e => a ⟨e, h2⟩
theorem hthr_uniq (hm : 1 < m) {s : Int × Int × Int} (I : HInv n m own s) {x y : Int} (x1 : x ∈ hxa n m s.1) (x2 : x ∈ hxa n m s.2.1) (hx : x ≠ s.2.2) (y1 : y ∈ hxa n m s.1) (y2 : y ∈ hxa n m s.2.1) (hy : y ≠ s.2.2) : x = y := by
  rcases I.lf with ⟨_, ha, hb⟩ | ⟨l1, l2⟩
  · rw [ha] at x1 y1
    rw [hb] at x2 y2
    rw [hx_start hm x1 x2, hx_start hm y1 y2]
  · exact hx_three (by omega) I.ab x1 x2 y1 y2 l1 l2 hx hy
theorem hinv_next (hm : 1 < m) (h12 : ∀ x, own x = 1 ∨ own x = 2) {s : Int × Int × Int} (I : HInv n m own s) {x : Int} (h : hthr n m s = some x) : HInv n m own (hnx own s x) := by
  obtain ⟨x1, _, x2⟩ := hthr_some h
  have hm0 : 0 < m := by omega
  have gx := ((mem_hxa hm0).1 x1).2
  unfold hnx
  split
  · rename_i ho
    exact ⟨gx, I.gb, hxa_sym hm0 I.gb.1 I.gb.2 x2, ho, I.ob, .inr ⟨hxa_sym hm0 I.ga.1 I.ga.2 x1, hxa_sym hm0 I.ga.1 I.ga.2 I.ab⟩⟩
  · rename_i ho
    exact ⟨I.ga, gx, x1, I.oa, (h12 x).resolve_left ho, .inr ⟨I.ab, hxa_sym hm0 I.gb.1 I.gb.2 x2⟩⟩
theorem hleft (hm : 1 < m) {s t : Int × Int × Int} (hab : s.1 = t.1 ∧ s.2.1 = t.2.1) (I : HInv n m own s) (J : HInv n m own t) {x : Int} (x1 : x ∈ hxa n m s.1) (x2 : x ∈ hxa n m s.2.1) (hx : x ≠ s.2.2) (hy : x ≠ t.2.2) : s = t := by
  have e : s.2.2 = t.2.2 := by
    rcases I.lf with ⟨l, ha, hb⟩ | ⟨l1, l2⟩
    · rcases J.lf with ⟨l', _, _⟩ | ⟨l1', l2'⟩
      · rw [l, l']
      · exfalso
        rw [← hab.1, ha] at l1'
        rw [← hab.2, hb] at l2'
        rw [ha] at x1
        rw [hb] at x2
        exact hy (by rw [hx_start hm x1 x2, hx_start hm l1' l2'])
    · rcases J.lf with ⟨l', ha', hb'⟩ | ⟨l1', l2'⟩
      · exfalso
        rw [hab.1, ha'] at l1 x1
        rw [hab.2, hb'] at l2 x2
        exact hx (by rw [hx_start hm x1 x2, hx_start hm l1 l2])
      · rw [← hab.1] at l1'
        rw [← hab.2] at l2'
        exact hx_three (by omega) I.ab l1 l2 l1' l2' x1 x2 (Ne.symm hx) (Ne.symm hy)
  obtain ⟨a, b, l⟩ := s
  obtain ⟨a', b', l'⟩ := t
  simp only at hab e
  rw [hab.1, hab.2, e]
theorem hstep_inj (hm : 1 < m) {s t u : Int × Int × Int} (I : HInv n m own s) (J : HInv n m own t) (h : hstep n m own s = some u) (h' : hstep n m own t = some u) : s = t := by
  unfold hstep at h h'
  rw [Option.map_eq_some_iff] at h h'
  obtain ⟨x, hx, ex⟩ := h
  obtain ⟨y, hy, ey⟩ := h'
  obtain ⟨x1, x3, x2⟩ := hthr_some hx
  obtain ⟨y1, y3, y2⟩ := hthr_some hy
  have oa := I.oa
  have ob := I.ob
  have oa' := J.oa
  have ob' := J.ob
  rw [← ey] at ex
  unfold hnx at ex
  by_cases p : own x = 1
  · by_cases q : own y = 1
    · rw [if_pos p, if_pos q] at ex
      simp only [Prod.mk.injEq] at ex
      obtain ⟨e1, e2, e3⟩ := ex
      exact hleft hm ⟨e3, e2⟩ I J x1 x2 x3 (by rw [e1]; exact y3)
    · rw [if_pos p, if_neg q] at ex
      simp only [Prod.mk.injEq] at ex
      obtain ⟨e1, e2, e3⟩ := ex
      rw [e3, ob'] at oa
      omega
  · by_cases q : own y = 1
    · rw [if_neg p, if_pos q] at ex
      simp only [Prod.mk.injEq] at ex
      obtain ⟨e1, e2, e3⟩ := ex
      rw [e3, oa'] at ob
      omega
    · rw [if_neg p, if_neg q] at ex
      simp only [Prod.mk.injEq] at ex
      obtain ⟨e1, e2, e3⟩ := ex
      exact hleft hm ⟨e1, e3⟩ I J x1 x2 x3 (by rw [e2]; exact y3)
theorem hst_succ {k : Nat} {t : Int × Int × Int} (h : hst n m own (k + 1) = some t) : ∃ s, hst n m own k = some s ∧ hstep n m own s = some t := by
  rw [hst, Option.bind_eq_some_iff] at h
  exact h
theorem hst_inv (hn : 2 ≤ n) (hm : 1 < m) (h12 : ∀ x, own x = 1 ∨ own x = 2) (o0 : own 0 = 1) (o1 : own m = 2) : ∀ k s, hst n m own k = some s → HInv n m own s ∧ (0 < k → s.2.2 ≠ -1)
  | 0, s, h => by
    rw [hst, Option.some.injEq] at h
    subst h
    have e1 : m / m = 1 := Int.ediv_self (by omega)
    have e2 : m % m = 0 := Int.emod_self
    have e3 : (0 : Int) / m = 0 := Int.zero_ediv m
    have e4 : (0 : Int) % m = 0 := Int.zero_emod m
    have T : stR 5 = 1 ∧ stC 5 = 0 := by decide
    refine ⟨⟨by rw [e3]; omega, by rw [e1]; omega, (mem_hxa (by omega)).2 ⟨⟨5, by omega, by rw [e1, e3]; omega, by rw [e2, e4]; omega⟩, by rw [e1]; omega⟩, o0, o1, .inl ⟨rfl, rfl, rfl⟩⟩, fun h => absurd h (Nat.lt_irrefl _)⟩
  | k + 1, t, h => by
    obtain ⟨s, hs, ht⟩ := hst_succ h
    obtain ⟨I, _⟩ := hst_inv hn hm h12 o0 o1 k s hs
    unfold hstep at ht
    rw [Option.map_eq_some_iff] at ht
    obtain ⟨x, hx, ex⟩ := ht
    rw [← ex]
    refine ⟨hinv_next hm h12 I hx, fun _ => ?_⟩
    have a := (pl_bd (by omega) I.ga.1 I.ga.2).1
    have b := (pl_bd (by omega) I.gb.1 I.gb.2).1
    unfold hnx
    split
    · show s.1 ≠ -1
      omega
    · show s.2.1 ≠ -1
      omega
theorem hst_ne (hn : 2 ≤ n) (hm : 1 < m) (h12 : ∀ x, own x = 1 ∨ own x = 2) (o0 : own 0 = 1) (o1 : own m = 2) : ∀ i j, i < j → ∀ t, hst n m own j = some t → hst n m own i ≠ some t
  | 0, j, hij, t, hj => fun h => by
    have := (hst_inv hn hm h12 o0 o1 j t hj).2 hij
    rw [hst, Option.some.injEq] at h
    subst h
    exact this rfl
  | i + 1, 0, hij, _, _ => absurd hij (Nat.not_lt_zero _)
  | i + 1, j + 1, hij, t, hj => fun h => by
    obtain ⟨s, hs, hst⟩ := hst_succ hj
    obtain ⟨s', hs', hst'⟩ := hst_succ h
    have e := hstep_inj hm (hst_inv hn hm h12 o0 o1 j s hs).1 (hst_inv hn hm h12 o0 o1 i s' hs').1 hst hst'
    subst e
    exact hst_ne hn hm h12 o0 o1 i j (by omega) s hs hs'
/-- A number for each place of a walk. -/
def hcode (m : Int) (s : Int × Int × Int) : Nat := ((s.1 * 9 + ((s.2.1 / m - s.1 / m + 1) * 3 + (s.2.1 % m - s.1 % m + 1))) * 10 + (if s.2.2 = -1 then 9 else (s.2.2 / m - s.1 / m + 1) * 3 + (s.2.2 % m - s.1 % m + 1))).toNat
theorem hinv_dig (hm : 1 < m) {s : Int × Int × Int} (I : HInv n m own s) : ∃ d e : Int, 0 ≤ s.1 ∧ s.1 < n * m ∧ (-1 ≤ s.2.1 / m - s.1 / m ∧ s.2.1 / m - s.1 / m ≤ 1) ∧ (-1 ≤ s.2.1 % m - s.1 % m ∧ s.2.1 % m - s.1 % m ≤ 1) ∧ d = (s.2.1 / m - s.1 / m + 1) * 3 + (s.2.1 % m - s.1 % m + 1) ∧
    ((s.2.2 = -1 ∧ e = 9) ∨ (s.2.2 ≠ -1 ∧ e = (s.2.2 / m - s.1 / m + 1) * 3 + (s.2.2 % m - s.1 % m + 1) ∧ (-1 ≤ s.2.2 / m - s.1 / m ∧ s.2.2 / m - s.1 / m ≤ 1) ∧ (-1 ≤ s.2.2 % m - s.1 % m ∧ s.2.2 % m - s.1 % m ≤ 1))) ∧ hcode m s = ((s.1 * 9 + d) * 10 + e).toNat := by
  have hm0 : 0 < m := by omega
  obtain ⟨a0, a1⟩ := pl_bd hm0 I.ga.1 I.ga.2
  obtain ⟨⟨k, _, k1, k2⟩, _⟩ := (mem_hxa hm0).1 I.ab
  have hk := hst_bd k
  refine ⟨_, _, a0, a1, by omega, by omega, rfl, ?_, rfl⟩
  by_cases hl : s.2.2 = -1
  · exact .inl ⟨hl, if_pos hl⟩
  · refine .inr ⟨hl, if_neg hl, ?_⟩
    rcases I.lf with ⟨l, _⟩ | ⟨l1, _⟩
    · exact absurd l hl
    · obtain ⟨⟨j, _, j1, j2⟩, _⟩ := (mem_hxa hm0).1 l1
      have hj := hst_bd j
      omega
theorem hcode_lt (hm : 1 < m) {s : Int × Int × Int} (I : HInv n m own s) (S : Nat) (hS : n * m = S) : hcode m s < S * 90 := by
  obtain ⟨d, e, a0, a1, b1, b2, hd, he, hc⟩ := hinv_dig hm I
  rw [hc]
  rw [hS] at a1
  rcases he with ⟨_, rfl⟩ | ⟨_, he, _, _⟩ <;> omega
theorem hcode_inj (hm : 1 < m) {s t : Int × Int × Int} (I : HInv n m own s) (J : HInv n m own t) (h : hcode m s = hcode m t) : s = t := by
  obtain ⟨d, e, a0, a1, b1, b2, hd, he, hc⟩ := hinv_dig hm I
  obtain ⟨d', e', a0', a1', b1', b2', hd', he', hc'⟩ := hinv_dig hm J
  rw [hc, hc'] at h
  have d0 : 0 ≤ d ∧ d ≤ 8 := by omega
  have d0' : 0 ≤ d' ∧ d' ≤ 8 := by omega
  have e0 : 0 ≤ e ∧ e ≤ 9 := by rcases he with ⟨_, rfl⟩ | ⟨_, he, _, _⟩ <;> omega
  have e0' : 0 ≤ e' ∧ e' ≤ 9 := by rcases he' with ⟨_, rfl⟩ | ⟨_, he', _, _⟩ <;> omega
  have ea : s.1 = t.1 := by omega
  have ed : d = d' := by omega
  have ee : e = e' := by omega
  rw [ea] at b1 b2 hd he
  have eb : s.2.1 = t.2.1 := pl_eq (m := m) (by omega) (by omega)
  have el : s.2.2 = t.2.2 := by
    rcases he with ⟨l, h9⟩ | ⟨l, h9, c1, c2⟩
    · rcases he' with ⟨l', _⟩ | ⟨l', h9', c1', c2'⟩
      · rw [l, l']
      · omega
    · rcases he' with ⟨l', h9'⟩ | ⟨l', h9', c1', c2'⟩
      · omega
      · exact pl_eq (m := m) (by omega) (by omega)
  obtain ⟨a, b, l⟩ := s
  obtain ⟨a', b', l'⟩ := t
  simp only at ea eb el
  rw [ea, eb, el]
theorem hst_none (hn : 2 ≤ n) (hm : 1 < m) (h12 : ∀ x, own x = 1 ∨ own x = 2) (o0 : own 0 = 1) (o1 : own m = 2) (S : Nat) (hS : n * m = S) : hst n m own (S * 90) = none := by
  cases hq : hst n m own (S * 90) with
  | none => rfl
  | some z =>
    exfalso
    have all : ∀ i, i ≤ S * 90 → ∃ s, hst n m own i = some s := by
      intro i hi
      obtain ⟨j, hj⟩ : ∃ j, i + j = S * 90 := ⟨S * 90 - i, by omega⟩
      have go : ∀ j i z, hst n m own (i + j) = some z → ∃ s, hst n m own i = some s := by
        intro j
        induction j with
        | zero => intro i z h; exact ⟨z, h⟩
        | succ j ih =>
          intro i z h
          obtain ⟨s, hs, _⟩ := hst_succ (show hst n m own (i + j + 1) = some z from h)
          exact ih i s hs
      exact go j i z (by rw [hj]; exact hq)
    have := hinj_le (S * 90) (fun i => hcode m ((hst n m own i).getD (0, 0, 0))) (S * 90) (fun i hi => by
      obtain ⟨s, hs⟩ := all i hi
      simp only [hs, Option.getD_some]
      exact hcode_lt hm (hst_inv hn hm h12 o0 o1 i s hs).1 S hS) (fun j hj i hij e => by
      obtain ⟨s, hs⟩ := all i (by omega)
      obtain ⟨t, ht⟩ := all j hj
      simp only [hs, ht, Option.getD_some] at e
      have := hcode_inj hm (hst_inv hn hm h12 o0 o1 i s hs).1 (hst_inv hn hm h12 o0 o1 j t ht).1 e
      subst this
      exact hst_ne hn hm h12 o0 o1 i j hij s ht hs)
    omega
/-- A walk ends. -/
theorem hst_ends (hn : 2 ≤ n) (hm : 1 < m) (h12 : ∀ x, own x = 1 ∨ own x = 2) (o0 : own 0 = 1) (o1 : own m = 2) (S : Nat) (hS : n * m = S) : ∃ L s, L < S * 90 ∧ hst n m own L = some s ∧ hthr n m s = none := by
  have go : ∀ K, hst n m own K = none → ∃ L s, L < K ∧ hst n m own L = some s ∧ hthr n m s = none := by
    intro K
    induction K with
    | zero => intro h; cases h
    | succ K ih =>
      intro h
      cases hk : hst n m own K with
      | none =>
        obtain ⟨L, s, hL, h1, h2⟩ := ih hk
        exact ⟨L, s, by omega, h1, h2⟩
      | some s =>
        refine ⟨K, s, by omega, hk, ?_⟩
        rw [hst, hk, Option.bind_some, hstep, Option.map_eq_none_iff] at h
        exact h
  exact go _ (hst_none hn hm h12 o0 o1 S hS)
/-- The doors of a walk. -/
def hdoor (o : Option (Int × Int × Int)) : Int × Int := match o with | some s => (s.1, s.2.1) | none => (0, 0)
def hdl (n m : Int) (own : Int → Int) (k : Nat) : List (Int × Int) := (List.range k).map fun i => hdoor (hst n m own i)
theorem hdl_succ (k : Nat) : hdl n m own (k + 1) = hdl n m own k ++ [hdoor (hst n m own k)] := by simp [hdl, List.range_succ]
theorem hdl_len (k : Nat) : (hdl n m own k).length = k := by simp [hdl]
theorem hst_go {L : Nat} {z : Int × Int × Int} (hL : hst n m own L = some z) (hz : hthr n m z = none) (k : Nat) (hk : k ≤ L) : ∃ s, hst n m own k = some s ∧ ((k = L ∧ hthr n m s = none) ∨ (k < L ∧ ∃ x, hthr n m s = some x ∧ hst n m own (k + 1) = some (hnx own s x))) := by
  have go : ∀ j i z, hst n m own (i + j) = some z → ∃ s, hst n m own i = some s := by
    intro j
    induction j with
    | zero => intro i z h; exact ⟨z, h⟩
    | succ j ih =>
      intro i z h
      obtain ⟨s, hs, _⟩ := hst_succ (show hst n m own (i + j + 1) = some z from h)
      exact ih i s hs
  obtain ⟨s, hs⟩ := go (L - k) k z (by rw [show k + (L - k) = L by omega]; exact hL)
  refine ⟨s, hs, ?_⟩
  rcases Nat.lt_or_eq_of_le hk with h | h
  · obtain ⟨t, ht⟩ := go (L - (k + 1)) (k + 1) z (by rw [show k + 1 + (L - (k + 1)) = L by omega]; exact hL)
    obtain ⟨s', hs', hst'⟩ := hst_succ ht
    rw [hs, Option.some.injEq] at hs'
    subst hs'
    unfold hstep at hst'
    rw [Option.map_eq_some_iff] at hst'
    obtain ⟨x, hx, ex⟩ := hst'
    exact .inr ⟨h, x, hx, by rw [ht, ← ex]⟩
  · subst h
    rw [hL, Option.some.injEq] at hs
    subst hs
    exact .inl ⟨rfl, hz⟩
end
/-- The players of a full board with its rim. -/
def hown (n m : Int) (xs : List Int) (x : Int) : Int :=
  if 0 ≤ x / (m + 2) - 1 ∧ x / (m + 2) - 1 ≤ n - 1 ∧ 0 ≤ x % (m + 2) - 1 ∧ x % (m + 2) - 1 ≤ m - 1 then xs.getD (m * (x / (m + 2) - 1) + (x % (m + 2) - 1)).toNat 0
  else if (x / (m + 2) - 1 = -1 ∧ x % (m + 2) - 1 < m) ∨ (x / (m + 2) - 1 = n ∧ 0 ≤ x % (m + 2) - 1) then 1 else 2
theorem hown_12 {n m : Int} {xs : List Int} (hm : 1 ≤ m) (hl : (xs.length : Int) = n * m) (hx : ∀ k, k < xs.length → 1 ≤ xs.getD k 0 ∧ xs.getD k 0 ≤ 2) (x : Int) : hown n m xs x = 1 ∨ hown n m xs x = 2 := by
  unfold hown
  split
  · rename_i h
    obtain ⟨a, b, c, d⟩ := h
    have e1 : 0 ≤ m * (x / (m + 2) - 1) := Int.mul_nonneg (by omega) a
    have e2 : m * (x / (m + 2) - 1) ≤ m * (n - 1) := Int.mul_le_mul_of_nonneg_left b (by omega)
    have e3 : m * (n - 1) = n * m - m := by rw [Int.mul_sub, Int.mul_one, Int.mul_comm]
    have := hx (m * (x / (m + 2) - 1) + (x % (m + 2) - 1)).toNat (by omega)
    omega
  · split <;> omega
theorem hown_0 {n m : Int} {xs : List Int} (hm : 1 ≤ m) : hown n m xs 0 = 1 := by
  have e3 : (0 : Int) / (m + 2) = 0 := Int.zero_ediv _
  have e4 : (0 : Int) % (m + 2) = 0 := Int.zero_emod _
  unfold hown
  rw [e3, e4, if_neg (by omega), if_pos (by omega)]
theorem hown_1 {n m : Int} {xs : List Int} (hn : 1 ≤ n) (hm : 1 ≤ m) : hown n m xs (m + 2) = 2 := by
  have e1 : (m + 2) / (m + 2) = 1 := Int.ediv_self (by omega)
  have e2 : (m + 2) % (m + 2) = 0 := Int.emod_self
  unfold hown
  rw [e1, e2, if_neg (by omega), if_neg (by omega)]
/-- The last door tells its row. -/
theorem hlast {n m : Int} {xs : List Int} (hn : 1 ≤ n) (hm : 1 ≤ m) {s : Int × Int × Int} (I : HInv (n + 2) (m + 2) (hown n m xs) s) (hz : hthr (n + 2) (m + 2) s = none) (hb : s.2.1 / (m + 2) = n + 1) : s.1 / (m + 2) = n + 1 := by
  have hm0 : 0 < m + 2 := by omega
  obtain ⟨⟨k, hk, k1, k2⟩, _⟩ := (mem_hxa hm0).1 I.ab
  have ob := I.ob
  have oa := I.oa
  have c0 := Int.emod_nonneg s.2.1 (by omega : m + 2 ≠ 0)
  have c1 := Int.emod_lt_of_pos s.2.1 hm0
  have cb : s.2.1 % (m + 2) = 0 := by
    unfold hown at ob
    rw [hb, if_neg (by omega)] at ob
    split at ob
    · omega
    · omega
  rcases Decidable.em (s.1 / (m + 2) = n + 1) with h | h
  · exact h
  · exfalso
    have a0 := Int.emod_nonneg s.1 (by omega : m + 2 ≠ 0)
    have ga := I.ga
    have T : ∀ k, k < 6 → (stR k ≠ 0 ∧ 0 ≤ stR k ∧ stC k ≤ 0) → (stR k = 1 ∧ (stC k = -1 ∨ stC k = 0)) := by decide +kernel
    have hsk := hst_bd k
    have u1 : stR k ≠ 0 := fun e => h (by rw [e] at k1; omega)
    have u2 : 0 ≤ stR k := by omega
    have u3 : stC k ≤ 0 := by omega
    obtain ⟨t1, t2⟩ := T k hk ⟨u1, u2, u3⟩
    have ra : s.1 / (m + 2) = n := by omega
    rcases t2 with t2 | t2
    · -- the place above and one to the right
      have ca : s.1 % (m + 2) = 1 := by omega
      obtain ⟨p1, p2⟩ := pl_div (m := m + 2) (r := n) (c := 0) (by omega) (by omega)
      obtain ⟨q1, q2⟩ := pl_div (m := m + 2) (r := n + 1) (c := 1) (by omega) (by omega)
      have T2 : stR 0 = -1 ∧ stC 0 = 0 ∧ stR 2 = 0 ∧ stC 2 = -1 ∧ stR 3 = 0 ∧ stC 3 = 1 ∧ stR 5 = 1 ∧ stC 5 = 0 := by decide
      have gn := I.ga
      rw [ra] at gn
      have X := hthr_none hz ((m + 2) * n + 0) ((mem_hxa hm0).2 ⟨⟨2, by omega, by rw [p1]; omega, by rw [p2]; omega⟩, by rw [p1]; omega⟩) ((mem_hxa hm0).2 ⟨⟨0, by omega, by rw [p1]; omega, by rw [p2]; omega⟩, by rw [p1]; omega⟩)
      have Y := hthr_none hz ((m + 2) * (n + 1) + 1) ((mem_hxa hm0).2 ⟨⟨5, by omega, by rw [q1]; omega, by rw [q2]; omega⟩, by rw [q1]; omega⟩) ((mem_hxa hm0).2 ⟨⟨3, by omega, by rw [q1]; omega, by rw [q2]; omega⟩, by rw [q1]; omega⟩)
      rw [← X] at Y
      rw [Y, p2] at q2
      omega
    · have ca : s.1 % (m + 2) = 0 := by omega
      unfold hown at oa
      rw [ra, ca, if_neg (by omega), if_neg (by omega)] at oa
      omega
end Go.Proofs.YtcahecohjmahaaaDoor
