import Derived.Test.YtjohjiknngagiaaZk
namespace Go.Proofs.Ytjohjiknngagiaa
open Go.RowKit
set_option maxRecDepth 4000
/-- A colour does no harm behind a list of colours. -/
def fitB (ap : Nat → Nat → Bool) (list : List Nat) (x : Nat) : Bool := (List.range list.length).all (fun i => !((list.getD i 0 == x) && ap i list.length))
/-- The first colours that go on a list, if there are some. -/
def impS (ap : Nat → Nat → Bool) (m count : Nat) : Nat → List Nat → Option (List Nat)
  | 0, list => if list.length = m then some list else none
  | f + 1, list => if list.length = m then some list else (List.range count).findSome? (fun x => if fitB ap list x then impS ap m count f (list ++ [x]) else none)
theorem impS_full (ap : Nat → Nat → Bool) (m count f : Nat) (list : List Nat) (h : list.length = m) : impS ap m count f list = some list := by
  cases f <;> simp [impS, h]
theorem findS_some {α : Type} (g : Nat → Option α) (n x : Nat) (o : α) (hx : x < n) (h : ∀ y, y < x → g y = none) (hg : g x = some o) : (List.range n).findSome? g = some o := by
  obtain ⟨d, rfl⟩ : ∃ d, n = x + (1 + d) := ⟨n - x - 1, by omega⟩
  rw [List.range_add, List.findSome?_append]
  have h1 : (List.range x).findSome? g = none := by
    rw [List.findSome?_eq_none_iff]
    intro y hy; exact h y (List.mem_range.1 hy)
  rw [h1, Nat.add_comm 1 d, List.range_succ_eq_map]
  simp [hg]
theorem findS_none {α : Type} (g : Nat → Option α) (n : Nat) (h : ∀ y, y < n → g y = none) : (List.range n).findSome? g = none := by
  rw [List.findSome?_eq_none_iff]
  intro y hy; exact h y (List.mem_range.1 hy)
theorem findS_ex {α : Type} (g : Nat → Option α) (n : Nat) (h : (List.range n).findSome? g ≠ none) : ∃ y, y < n ∧ g y ≠ none := by
  refine Classical.byContradiction (fun hn => h (findS_none g n (fun y hy => ?_)))
  refine Classical.byContradiction (fun hy' => hn ⟨y, hy, hy'⟩)
theorem findS_ne {α : Type} (g : Nat → Option α) (n x : Nat) (hx : x < n) (h : g x ≠ none) : (List.range n).findSome? g ≠ none := by
  intro hn
  rw [List.findSome?_eq_none_iff] at hn
  exact h (hn x (List.mem_range.2 hx))
/-- Two colours exchanged. -/
def swp (a b x : Nat) : Nat := if x = a then b else if x = b then a else x
theorem swp_swp (a b x : Nat) : swp a b (swp a b x) = x := by
  unfold swp
  by_cases h1 : x = a <;> by_cases h2 : x = b <;> by_cases h3 : b = a <;> simp_all
theorem swp_lt {a b n : Nat} (ha : a < n) (hb : b < n) (x : Nat) (hx : x < n) : swp a b x < n := by
  unfold swp; split
  · exact hb
  · split
    · exact ha
    · exact hx
theorem swp_inj (a b x y : Nat) : (swp a b x == swp a b y) = (x == y) := by
  rw [Bool.eq_iff_iff, beq_iff_eq, beq_iff_eq]
  constructor
  · intro h
    have := congrArg (swp a b) h
    rwa [swp_swp, swp_swp] at this
  · intro h; rw [h]
theorem fit_swp (ap : Nat → Nat → Bool) (list : List Nat) (x a b : Nat) : fitB ap (list.map (swp a b)) (swp a b x) = fitB ap list x := by
  unfold fitB
  rw [List.length_map]
  rw [Bool.eq_iff_iff, List.all_eq_true, List.all_eq_true]
  have e : ∀ i, i < list.length → (list.map (swp a b)).getD i 0 = swp a b (list.getD i 0) := fun i hi => by
    simp [List.getD_eq_getElem?_getD, hi]
  constructor
  · intro h i hi
    have := h i hi
    rw [e i (List.mem_range.1 hi), swp_inj] at this
    exact this
  · intro h i hi
    rw [e i (List.mem_range.1 hi), swp_inj]
    exact h i hi
theorem impS_swp (ap : Nat → Nat → Bool) (m count a b : Nat) (ha : a < count) (hb : b < count) : ∀ (f : Nat) (list : List Nat), impS ap m count f list ≠ none → impS ap m count f (list.map (swp a b)) ≠ none
  | 0, list, h => by
    simp only [impS, List.length_map] at h ⊢
    split at h
    · rw [if_pos (by assumption)]; simp
    · exact absurd rfl h
  | f + 1, list, h => by
    simp only [impS, List.length_map] at h ⊢
    split at h
    · rw [if_pos (by assumption)]; simp
    · rw [if_neg (by assumption)]
      obtain ⟨y, hy, hg⟩ := findS_ex _ _ h
      refine findS_ne _ _ (swp a b y) (swp_lt ha hb y hy) ?_
      simp only [fit_swp]
      split at hg
      · rw [if_pos (by assumption)]
        have := impS_swp ap m count a b ha hb f (list ++ [y]) hg
        simpa using this
      · exact absurd rfl hg
/-- The colours of a list are 0 to t - 1. -/
def Can (t : Nat) (list : List Nat) : Prop := (∀ c, c ∈ list → c < t) ∧ ∀ c, c < t → c ∈ list
theorem can_nil : Can 0 [] := ⟨by simp, by omega⟩
theorem can_old {t : Nat} {list : List Nat} (h : Can t list) {x : Nat} (hx : x ∈ list) : Can t (list ++ [x]) := by
  refine ⟨fun c hc => ?_, fun c hc => List.mem_append_left _ (h.2 c hc)⟩
  rcases List.mem_append.1 hc with hc | hc
  · exact h.1 c hc
  · rw [List.mem_singleton.1 hc]; exact h.1 x hx
theorem can_new {t : Nat} {list : List Nat} (h : Can t list) : Can (t + 1) (list ++ [t]) := by
  refine ⟨fun c hc => ?_, fun c hc => ?_⟩
  · rcases List.mem_append.1 hc with hc | hc
    · have := h.1 c hc; omega
    · rw [List.mem_singleton.1 hc]; omega
  · by_cases e : c = t
    · rw [e]; simp
    · exact List.mem_append_left _ (h.2 c (by omega))
/-- What one new colour can't do, none can. -/
theorem imp_new (ap : Nat → Nat → Bool) (m count f t y : Nat) (list : List Nat) (h : Can t list) (ht : t < count) (hy : y < count) (hty : t ≤ y) (hn : impS ap m count f (list ++ [t]) = none) : impS ap m count f (list ++ [y]) = none := by
  refine Classical.byContradiction (fun hc => ?_)
  have := impS_swp ap m count t y ht hy f (list ++ [y]) hc
  refine this ?_
  have e : (list ++ [y]).map (swp t y) = list ++ [t] := by
    rw [List.map_append]
    congr 1
    · have : list.map (swp t y) = list.map id := List.map_congr_left (fun c hc' => by
        have := h.1 c hc'
        unfold swp
        rw [if_neg (by omega), if_neg (by omega)]; rfl)
      simpa using this
    · simp only [List.map_cons, List.map_nil, swp]
      by_cases e : y = t
      · simp [e]
      · simp [e]
  rw [e]; exact hn
theorem imp_break (ap : Nat → Nat → Bool) (m count f : Nat) (list : List Nat) (t : Nat) (h : Can t list) (hlt : list.length ≠ m) (ht : t < count) (hold : ∀ y, y ≤ t → (if fitB ap list y then impS ap m count f (list ++ [y]) else none) = none) (hfit : fitB ap list t = true) : impS ap m count (f + 1) list = none := by
  simp only [impS, if_neg hlt]
  refine findS_none _ _ (fun y hy => ?_)
  by_cases hyt : y ≤ t
  · exact hold y hyt
  · have h0 := hold t (Nat.le_refl _)
    rw [if_pos hfit] at h0
    split
    · exact imp_new ap m count f t y list h ht hy (by omega) h0
    · rfl
theorem imp_all (ap : Nat → Nat → Bool) (m count f : Nat) (list : List Nat) (hlt : list.length ≠ m) (hold : ∀ y, y < count → (if fitB ap list y then impS ap m count f (list ++ [y]) else none) = none) : impS ap m count (f + 1) list = none := by
  simp only [impS, if_neg hlt]
  exact findS_none _ _ hold
theorem imp_hit (ap : Nat → Nat → Bool) (m count f : Nat) (list : List Nat) (hlt : list.length ≠ m) (x : Nat) (o : List Nat) (hx : x < count) (hold : ∀ y, y < x → (if fitB ap list y then impS ap m count f (list ++ [y]) else none) = none) (hfit : fitB ap list x = true) (ho : impS ap m count f (list ++ [x]) = some o) : impS ap m count (f + 1) list = some o := by
  simp only [impS, if_neg hlt]
  exact findS_some _ _ x o hx hold (by rw [if_pos hfit]; exact ho)
theorem fit_new (ap : Nat → Nat → Bool) (list : List Nat) (x : Nat) (h : x ∉ list) : fitB ap list x = true := by
  simp only [fitB, List.all_eq_true, List.mem_range]
  intro i hi
  have : ¬ list.getD i 0 = x := fun e => h (by
    rw [← e, List.getD_eq_getElem?_getD, List.getElem?_eq_getElem hi]; exact List.getElem_mem hi)
  have hb : (list.getD i 0 == x) = false := beq_eq_false_iff_ne.2 this
  rw [hb]; rfl
theorem impS_len (ap : Nat → Nat → Bool) (m count : Nat) : ∀ (f : Nat) (list o : List Nat), impS ap m count f list = some o → o.length = m
  | 0, list, o, h => by
    simp only [impS] at h
    split at h
    · simp only [Option.some.injEq] at h; rw [← h]; assumption
    · cases h
  | f + 1, list, o, h => by
    simp only [impS] at h
    split at h
    · simp only [Option.some.injEq] at h; rw [← h]; assumption
    · obtain ⟨y, -, hy⟩ := List.exists_of_findSome?_eq_some h
      split at hy
      · exact impS_len ap m count f _ o hy
      · cases hy
end Go.Proofs.Ytjohjiknngagiaa
