import Derived.Test.YtokhpchnnilbaaaDc0
namespace Go.Proofs.Ytokhpchnnilbaaa
open Go.RowKit
set_option maxRecDepth 4000
/-! Necklaces of four kinds have fair cuts, four at most. -/
namespace Tk
/-- How many of the first m places of kind i hold v. -/
def cX (κ : Nat → Nat) (x : Nat → Int) (v : Int) : Nat → Nat → Nat
  | 0, _ => 0
  | m + 1, i => cX κ x v m i + if κ m = i ∧ x m = v then 1 else 0
def cK (κ : Nat → Nat) : Nat → Nat → Nat
  | 0, _ => 0
  | m + 1, i => cK κ m i + if κ m = i then 1 else 0
/-- Values are 1, -1 and 0. -/
def Tri (n : Nat) (x : Nat → Int) : Prop := ∀ j, j < n → x j = 1 ∨ x j = -1 ∨ x j = 0
theorem cX_sum (κ : Nat → Nat) (x : Nat → Int) : ∀ (m i : Nat), Tri m x → cX κ x 1 m i + cX κ x (-1) m i + cX κ x 0 m i = cK κ m i
  | 0, _, _ => rfl
  | m + 1, i, h => by
    have := cX_sum κ x m i (fun j hj => h j (by omega))
    simp only [cX, cK]
    rcases h m (by omega) with e | e | e <;> rw [e] <;> by_cases hk : κ m = i <;> simp [hk] <;> omega
def Ext (n : Nat) (x y : Nat → Int) : Prop := ∀ j, j < n → x j ≠ 0 → y j = x j
theorem cX_ext (κ : Nat → Nat) (x y : Nat → Int) (v : Int) (hv : v ≠ 0) : ∀ (m i : Nat), Ext m x y → cX κ x v m i ≤ cX κ y v m i
  | 0, _, _ => Nat.le_refl _
  | m + 1, i, h => by
    have := cX_ext κ x y v hv m i (fun j hj => h j (by omega))
    simp only [cX]
    by_cases hk : κ m = i ∧ x m = v
    · have : y m = v := by rw [h m (by omega) (by rw [hk.2]; exact hv)]; exact hk.2
      rw [if_pos hk, if_pos ⟨hk.1, this⟩]; omega
    · rw [if_neg hk]; split <;> omega
theorem cX_neg (κ : Nat → Nat) (x y : Nat → Int) (v : Int) : ∀ (m i : Nat), (∀ j, j < m → y j = - x j) → cX κ y v m i = cX κ x (-v) m i
  | 0, _, _ => rfl
  | m + 1, i, h => by
    have := cX_neg κ x y v m i (fun j hj => h j (by omega))
    have e := h m (by omega)
    simp only [cX, this]
    congr 1
    by_cases hk : κ m = i ∧ x m = -v
    · rw [if_pos hk, if_pos ⟨hk.1, by omega⟩]
    · rw [if_neg hk, if_neg (fun hh => hk ⟨hh.1, by omega⟩)]
/-- How often the sign changes, and the last sign; noughts left out. -/
def al (z : Nat → Int) : Nat → Nat × Int
  | 0 => (0, 0)
  | m + 1 => if z m = 0 ∨ z m = (al z m).2 then al z m else ((al z m).1 + 1, z m)
theorem al_mono (z z' : Nat → Int) : ∀ m, Ext m z z' → (al z m).1 < (al z' m).1 ∨ ((al z m).1 = (al z' m).1 ∧ (al z m).2 = (al z' m).2)
  | 0, _ => .inr ⟨rfl, rfl⟩
  | m + 1, h => by
    have ih := al_mono z z' m (fun j hj => h j (by omega))
    simp only [al]
    by_cases h0 : z m = 0
    · rw [if_pos (.inl h0)]
      split
      · exact ih
      · rename_i hh
        rcases ih with h1 | ⟨h1, h2⟩
        · left; simp only; omega
        · left; simp only; omega
    · have e := h m (by omega) h0
      rw [e]
      by_cases h1 : z m = (al z m).2 <;> by_cases h2 : z m = (al z' m).2
      · rw [if_pos (.inr h1), if_pos (.inr h2)]; exact ih
      · rw [if_pos (.inr h1), if_neg (fun hh => hh.elim h0 h2)]
        rcases ih with h3 | ⟨h3, h4⟩
        · left; simp only; omega
        · left; simp only; omega
      · rw [if_neg (fun hh => hh.elim h0 h1), if_pos (.inr h2)]
        rcases ih with h3 | ⟨h3, h4⟩
        · by_cases h5 : (al z m).1 + 1 < (al z' m).1
          · left; exact h5
          · right; exact ⟨by simp only; omega, h2⟩
        · exact absurd (h2.trans h4.symm) h1
      · rw [if_neg (fun hh => hh.elim h0 h1), if_neg (fun hh => hh.elim h0 h2)]
        rcases ih with h3 | ⟨h3, h4⟩
        · left; simp only; omega
        · right; exact ⟨by simp only; omega, rfl⟩
theorem al_neg (z z' : Nat → Int) : ∀ m, (∀ j, j < m → z' j = - z j) → (al z' m).1 = (al z m).1 ∧ (al z' m).2 = - (al z m).2
  | 0, _ => ⟨rfl, rfl⟩
  | m + 1, h => by
    obtain ⟨h1, h2⟩ := al_neg z z' m (fun j hj => h j (by omega))
    have e := h m (by omega)
    simp only [al]
    by_cases h0 : z m = 0 ∨ z m = (al z m).2
    · rw [if_pos h0, if_pos (by rw [e, h2]; omega)]; exact ⟨h1, h2⟩
    · rw [if_neg h0, if_neg (by rw [e, h2]; omega)]; exact ⟨by simp only; omega, e⟩
theorem al_tri (z : Nat → Int) : ∀ m, Tri m z → ((al z m).2 = 1 ∨ (al z m).2 = -1 ∨ ((al z m).2 = 0 ∧ (al z m).1 = 0)) ∧ ((al z m).2 ≠ 0 → 1 ≤ (al z m).1)
  | 0, _ => ⟨.inr (.inr ⟨rfl, rfl⟩), fun h => absurd rfl h⟩
  | m + 1, h => by
    have ih := al_tri z m (fun j hj => h j (by omega))
    simp only [al]
    split
    · exact ih
    · rename_i h0
      refine ⟨?_, fun _ => by simp only; omega⟩
      rcases h m (by omega) with e | e | e
      · exact .inl e
      · exact .inr (.inl e)
      · exact absurd (.inl e) h0
theorem al_ne (z : Nat → Int) : ∀ m j, j < m → z j ≠ 0 → (al z m).2 ≠ 0
  | 0, _, h, _ => by omega
  | m + 1, j, h, hz => by
    simp only [al]
    by_cases h0 : z m = 0
    · rw [if_pos (.inl h0)]
      have hj : j ≠ m := fun e => hz (e ▸ h0)
      exact al_ne z m j (by omega) hz
    · by_cases h1 : z m = (al z m).2
      · rw [if_pos (.inr h1), ← h1]; exact h0
      · rw [if_neg (fun hh => hh.elim h0 h1)]; exact h0
/-- How often a word of signs changes. -/
def chg (y : Nat → Int) : Nat → Nat
  | 0 => 0
  | m + 1 => chg y m + if 1 ≤ m ∧ y m ≠ y (m - 1) then 1 else 0
def alt1 (j : Nat) : Int := if j % 2 = 0 then 1 else -1
theorem al_full (z : Nat → Int) : ∀ m, (∀ j, j < m + 1 → z j = 1 ∨ z j = -1) → (al z (m + 1)).1 = 1 + chg z (m + 1) ∧ (al z (m + 1)).2 = z m
  | 0, h => by
    have := h 0 (by omega)
    have hz : z 0 ≠ 0 := by omega
    simp [al, chg, hz]
  | m + 1, h => by
    obtain ⟨h1, h2⟩ := al_full z m (fun j hj => h j (by omega))
    have e := h (m + 1) (by omega)
    rw [al, chg]
    by_cases h3 : z (m + 1) = z m
    · rw [if_pos (.inr (by rw [h2]; exact h3)), h1, h2, if_neg (by simp [h3])]
      exact ⟨by omega, h3.symm⟩
    · rw [if_neg (by rw [h2]; omega), h1, if_pos ⟨by omega, by simpa using h3⟩]
      exact ⟨by simp only; omega, rfl⟩
theorem chg_alt (y : Nat → Int) : ∀ m, (∀ j, j < m + 1 → y j = 1 ∨ y j = -1) → chg y (m + 1) + chg (fun j => y j * alt1 j) (m + 1) = m
  | 0, _ => by simp [chg]
  | m + 1, h => by
    have ih := chg_alt y m (fun j hj => h j (by omega))
    have e1 := h (m + 1) (by omega)
    have e2 := h m (by omega)
    have c1 : ∀ f : Nat → Int, chg f (m + 1 + 1) = chg f (m + 1) + if 1 ≤ m + 1 ∧ f (m + 1) ≠ f m then 1 else 0 := fun f => rfl
    rw [c1, c1]
    have ha : alt1 (m + 1) = - alt1 m := by unfold alt1; split <;> split <;> omega
    have hb : alt1 m = 1 ∨ alt1 m = -1 := by unfold alt1; split <;> simp
    simp only [ha]
    rcases e1 with e1 | e1 <;> rcases e2 with e2 | e2 <;> rcases hb with hb | hb <;> rw [e1, e2, hb] <;> simp <;> omega
/-- A completion that is fair. -/
def fill (κ : Nat → Nat) (x : Nat → Int) (need : Nat → Nat) (j : Nat) : Int := if x j ≠ 0 then x j else if cX κ x 0 j (κ j) < need (κ j) then 1 else -1
theorem fill_sign (κ : Nat → Nat) (x : Nat → Int) (need : Nat → Nat) (n : Nat) (h : Tri n x) (j : Nat) (hj : j < n) : fill κ x need j = 1 ∨ fill κ x need j = -1 := by
  unfold fill
  have := h j hj
  split
  · omega
  · split <;> simp
theorem fill_ext (κ : Nat → Nat) (x : Nat → Int) (need : Nat → Nat) (n : Nat) : Ext n x (fill κ x need) := fun j _ h => by simp [fill, h]
theorem fill_count (κ : Nat → Nat) (x : Nat → Int) (need : Nat → Nat) (i : Nat) : ∀ m, Tri m x → cX κ (fill κ x need) 1 m i = cX κ x 1 m i + min (cX κ x 0 m i) (need i)
  | 0, _ => by simp [cX]
  | m + 1, h => by
    have ih := fill_count κ x need i m (fun j hj => h j (by omega))
    simp only [cX, ih]
    by_cases hk : κ m = i
    · subst hk
      unfold fill
      rcases h m (by omega) with e | e | e
      · simp [e]; omega
      · simp [e]
      · by_cases hl : cX κ x 0 m (κ m) < need (κ m)
        · simp [e, hl]; omega
        · simp [e, hl]; omega
    · simp [hk]
/-- From a choice of signs for some beads, no kind too often, that changes often enough when each second sign is turned. -/
theorem fair_of (n : Nat) (hn : 1 ≤ n) (κ : Nat → Nat) (a : Nat → Nat) (hκ : ∀ i, i < 4 → cK κ n i = 2 * a i) (x : Nat → Int) (hx : Tri n x)
    (hp : ∀ i, i < 4 → cX κ x 1 n i ≤ a i) (hm : ∀ i, i < 4 → cX κ x (-1) n i ≤ a i) (hc : n ≤ 4 + (al (fun j => x j * alt1 j) n).1 ∨ n ≤ 5) :
    ∃ y : Nat → Int, (∀ j, j < n → y j = 1 ∨ y j = -1) ∧ (∀ i, i < 4 → 2 * cX κ y 1 n i = cK κ n i) ∧ chg y n ≤ 4 := by
  obtain ⟨m, rfl⟩ : ∃ m, n = m + 1 := ⟨n - 1, by omega⟩
  have hs := fill_sign κ x (fun i => a i - cX κ x 1 (m + 1) i) (m + 1) hx
  refine ⟨fill κ x (fun i => a i - cX κ x 1 (m + 1) i), hs, fun i hi => ?_, ?_⟩
  · have h1 := fill_count κ x (fun i => a i - cX κ x 1 (m + 1) i) i (m + 1) hx
    have h2 := cX_sum κ x (m + 1) i hx
    have h3 := hp i hi; have h4 := hm i hi; have h5 := hκ i hi
    rw [h1, h5]
    omega
  · have h1 := chg_alt _ m hs
    rcases hc with hc | hc
    · have h2 := al_mono (fun j => x j * alt1 j) (fun j => fill κ x (fun i => a i - cX κ x 1 (m + 1) i) j * alt1 j) (m + 1) (fun j hj h => by
        have : x j ≠ 0 := fun e => h (by simp [e])
        simp only
        rw [fill_ext κ x _ (m + 1) j hj this])
      have h3 := al_full (fun j => fill κ x (fun i => a i - cX κ x 1 (m + 1) i) j * alt1 j) m (fun j hj => by
        have hb : alt1 j = 1 ∨ alt1 j = -1 := by unfold alt1; split <;> simp
        rcases hs j hj with e | e <;> rcases hb with hb | hb <;> simp [e, hb])
      omega
    · omega
/-- The signs of a word. -/
def xOf (w : List SP) (j : Nat) : Int := if (j, true) ∈ w then 1 else if (j, false) ∈ w then -1 else 0
theorem xOf_tri (w : List SP) (n : Nat) : Tri n (xOf w) := fun j _ => by unfold xOf; split; exact .inl rfl; split; exact .inr (.inl rfl); exact .inr (.inr rfl)
theorem okW_one {w : List SP} (h : okW w = true) {c : Nat} (h1 : (c, true) ∈ w) (h2 : (c, false) ∈ w) : False := by
  rw [okW_iff] at h
  obtain ⟨x, y, rfl⟩ := List.append_of_mem h1
  rw [List.map_append, List.map_cons, List.nodup_append, List.nodup_cons] at h
  obtain ⟨-, ⟨h3, -⟩, h4⟩ := h
  rcases List.mem_append.1 h2 with h5 | h5
  · exact h4 c (List.mem_map.2 ⟨_, h5, rfl⟩) c (by simp) rfl
  · rcases List.mem_cons.1 h5 with e | h5
    · cases e
    · exact h3 (List.mem_map.2 ⟨_, h5, rfl⟩)
theorem xOf_neg (w : List SP) (h : okW w = true) (j : Nat) : xOf (negW w) j = - xOf w j := by
  have e : ∀ s, (j, s) ∈ negW w ↔ (j, !s) ∈ w := by
    intro s
    simp only [negW, List.mem_map]
    constructor
    · rintro ⟨⟨c, s'⟩, h1, h2⟩
      cases h2
      simpa using h1
    · intro h1; exact ⟨(j, !s), h1, by simp⟩
  unfold xOf
  simp only [e, Bool.not_true, Bool.not_false]
  by_cases h1 : (j, true) ∈ w <;> by_cases h2 : (j, false) ∈ w
  · exact (okW_one h h1 h2).elim
  · simp [h1, h2]
  · simp [h1, h2]
  · simp [h1, h2]
theorem xOf_ext (u v : List SP) (h : okW (u ++ v) = true) (n : Nat) : Ext n (xOf u) (xOf (u ++ v)) := by
  intro j _ hj
  unfold xOf at hj ⊢
  by_cases h1 : (j, true) ∈ u
  · simp [h1]
  · by_cases h2 : (j, false) ∈ u
    · have h3 : (j, true) ∉ u ++ v := fun h3 => okW_one h h3 (List.mem_append_left _ h2)
      simp only [if_neg h3, if_neg h1, if_pos h2, if_pos (List.mem_append_left v h2)]
    · simp [h1, h2] at hj
section
variable (n : Nat) (κ a : Nat → Nat)
def bg (x : Nat → Int) (i : Nat) : Prop := a i < cX κ x 1 n i ∨ a i < cX κ x (-1) n i
instance (x : Nat → Int) (i : Nat) : Decidable (bg n κ a x i) := by unfold bg; infer_instance
def sb (x : Nat → Int) (i : Nat) : Int := if a i < cX κ x 1 n i then 1 else -1
def lamX (x : Nat → Int) : Int :=
  if bg n κ a x 0 then sb n κ a x 0 * 1 else if bg n κ a x 1 then sb n κ a x 1 * 2 else if bg n κ a x 2 then sb n κ a x 2 * 3 else if bg n κ a x 3 then sb n κ a x 3 * 4
  else (al (fun j => x j * alt1 j) n).2 * (4 + (al (fun j => x j * alt1 j) n).1)
theorem lam_cases (x : Nat → Int) : (∃ i, i < 4 ∧ bg n κ a x i ∧ (∀ i', i' < i → ¬ bg n κ a x i') ∧ lamX n κ a x = sb n κ a x i * ((i : Int) + 1)) ∨
    ((∀ i, i < 4 → ¬ bg n κ a x i) ∧ lamX n κ a x = (al (fun j => x j * alt1 j) n).2 * (4 + (al (fun j => x j * alt1 j) n).1)) := by
  unfold lamX
  by_cases h0 : bg n κ a x 0
  · exact .inl ⟨0, by omega, h0, fun i' h => by omega, by rw [if_pos h0]; rfl⟩
  · by_cases h1 : bg n κ a x 1
    · exact .inl ⟨1, by omega, h1, fun i' h => by obtain rfl : i' = 0 := by omega
                                                  exact h0, by rw [if_neg h0, if_pos h1]; rfl⟩
    · by_cases h2 : bg n κ a x 2
      · exact .inl ⟨2, by omega, h2, fun i' h => by
          rcases (by omega : i' = 0 ∨ i' = 1) with rfl | rfl
          · exact h0
          · exact h1, by rw [if_neg h0, if_neg h1, if_pos h2]; rfl⟩
      · by_cases h3 : bg n κ a x 3
        · exact .inl ⟨3, by omega, h3, fun i' h => by
            rcases (by omega : i' = 0 ∨ i' = 1 ∨ i' = 2) with rfl | rfl | rfl
            · exact h0
            · exact h1
            · exact h2, by rw [if_neg h0, if_neg h1, if_neg h2, if_pos h3]; rfl⟩
        · refine .inr ⟨fun i hi => ?_, by rw [if_neg h0, if_neg h1, if_neg h2, if_neg h3]⟩
          rcases (by omega : i = 0 ∨ i = 1 ∨ i = 2 ∨ i = 3) with rfl | rfl | rfl | rfl
          · exact h0
          · exact h1
          · exact h2
          · exact h3
theorem sb_one (x : Nat → Int) (i : Nat) : sb n κ a x i = 1 ∨ sb n κ a x i = -1 := by unfold sb; split <;> simp
theorem z_tri (x : Nat → Int) (h : Tri n x) : Tri n (fun j => x j * alt1 j) := fun j hj => by
  have hb : alt1 j = 1 ∨ alt1 j = -1 := by unfold alt1; split <;> simp
  rcases h j hj with e | e | e <;> rcases hb with hb | hb <;> simp [e, hb]
theorem lab_of (hκ : ∀ i, i < 4 → cK κ n i = 2 * a i) : Lab n (fun w => lamX n κ a (xOf w)) := by
  have hsum : ∀ (w : List SP) (i : Nat), i < 4 → cX κ (xOf w) 1 n i + cX κ (xOf w) (-1) n i ≤ 2 * a i := fun w i hi => by
    have h1 := cX_sum κ (xOf w) n i (xOf_tri w n)
    have h2 := hκ i hi
    omega
  have hnz : ∀ w : List SP, w ≠ [] → (∀ p ∈ w, p.1 < n) → (al (fun j => xOf w j * alt1 j) n).2 ≠ 0 := by
    intro w hw hp
    obtain ⟨⟨c, s⟩, r, rfl⟩ := List.exists_cons_of_ne_nil hw
    have hc := hp (c, s) (by simp)
    refine al_ne _ n c hc ?_
    have hb : alt1 c = 1 ∨ alt1 c = -1 := by unfold alt1; split <;> simp
    have hx : xOf ((c, s) :: r) c = 1 ∨ xOf ((c, s) :: r) c = -1 := by
      unfold xOf
      cases s
      · split <;> simp
      · simp
    rcases hx with e | e <;> rcases hb with hb | hb <;> simp [e, hb]
  constructor
  · intro w w' hp
    have : xOf w = xOf w' := by funext j; unfold xOf; simp only [hp.mem_iff]
    rw [this]
  · intro w ho hw hp
    rcases lam_cases n κ a (xOf w) with ⟨i, hi, hb, -, e⟩ | ⟨hb, e⟩
    · simp only [e]
      rcases sb_one n κ a (xOf w) i with h | h <;> rw [h] <;> omega
    · simp only [e]
      have h1 := hnz w hw hp
      have h2 := (al_tri _ n (z_tri n _ (xOf_tri w n))).1
      rcases h2 with h | h | ⟨h, -⟩
      · rw [h]; omega
      · rw [h]; omega
      · exact absurd h h1
  · intro w ho hw hp
    have hx := xOf_neg w ho
    have e1 : ∀ i, cX κ (xOf (negW w)) 1 n i = cX κ (xOf w) (-1) n i := fun i => cX_neg κ _ _ 1 n i (fun j _ => hx j)
    have e2 : ∀ i, cX κ (xOf (negW w)) (-1) n i = cX κ (xOf w) 1 n i := fun i => by
      have := cX_neg κ (xOf w) (xOf (negW w)) (-1) n i (fun j _ => hx j)
      rw [this]; rfl
    have hbg : ∀ i, bg n κ a (xOf (negW w)) i ↔ bg n κ a (xOf w) i := fun i => by unfold bg; rw [e1, e2]; exact or_comm
    have hal := al_neg (fun j => xOf w j * alt1 j) (fun j => xOf (negW w) j * alt1 j) n (fun j _ => by simp only [hx j, Int.neg_mul])
    have hsb : ∀ i, i < 4 → bg n κ a (xOf w) i → sb n κ a (xOf (negW w)) i = - sb n κ a (xOf w) i := fun i hi hb => by
      have h1 := hsum w i hi
      unfold sb
      rw [e1]
      unfold bg at hb
      by_cases h2 : a i < cX κ (xOf w) 1 n i
      · rw [if_pos h2, if_neg (by omega)]
      · rw [if_neg h2, if_pos (by omega)]; rfl
    simp only [lamX, hbg]
    split
    · rename_i h; rw [hsb 0 (by omega) h]; omega
    · split
      · rename_i h; rw [hsb 1 (by omega) h]; omega
      · split
        · rename_i h; rw [hsb 2 (by omega) h]; omega
        · split
          · rename_i h; rw [hsb 3 (by omega) h]; omega
          · rw [hal.1, hal.2, Int.neg_mul]
  · intro u v ho hu hp
    have hpu : ∀ p ∈ u, p.1 < n := fun p h => hp p (List.mem_append_left _ h)
    have hext := xOf_ext u v ho n
    have m1 : ∀ i, cX κ (xOf u) 1 n i ≤ cX κ (xOf (u ++ v)) 1 n i := fun i => cX_ext κ _ _ 1 (by omega) n i hext
    have m2 : ∀ i, cX κ (xOf u) (-1) n i ≤ cX κ (xOf (u ++ v)) (-1) n i := fun i => cX_ext κ _ _ (-1) (by omega) n i hext
    have hsz : ∀ w : List SP, w ≠ [] → (∀ p ∈ w, p.1 < n) → ((al (fun j => xOf w j * alt1 j) n).2 = 1 ∨ (al (fun j => xOf w j * alt1 j) n).2 = -1) ∧ 1 ≤ (al (fun j => xOf w j * alt1 j) n).1 := fun w hw hp => by
      have h1 := hnz w hw hp
      have h2 := al_tri _ n (z_tri n _ (xOf_tri w n))
      refine ⟨?_, h2.2 h1⟩
      rcases h2.1 with h | h | ⟨h, -⟩
      · exact .inl h
      · exact .inr h
      · exact absurd h h1
    have su := hsz u hu hpu
    have suv := hsz (u ++ v) (by simp [hu]) hp
    rcases lam_cases n κ a (xOf u) with ⟨i, hi, hb, -, e⟩ | ⟨hb, e⟩ <;> rcases lam_cases n κ a (xOf (u ++ v)) with ⟨i', hi', hb', -, e'⟩ | ⟨hb', e'⟩ <;> simp only [e, e']
    · intro h
      have hii : i = i' := by
        rcases sb_one n κ a (xOf u) i with h1 | h1 <;> rcases sb_one n κ a (xOf (u ++ v)) i' with h2 | h2 <;> rw [h1, h2] at h <;> omega
      subst hii
      have h1 := hsum (u ++ v) i hi
      have h2 := m1 i
      have h3 := m2 i
      unfold bg at hb
      unfold sb at h
      by_cases h4 : a i < cX κ (xOf u) 1 n i
      · rw [if_pos h4, if_pos (by omega)] at h; omega
      · rw [if_neg h4, if_neg (by omega)] at h; omega
    · intro h
      rcases sb_one n κ a (xOf u) i with h1 | h1 <;> rcases suv.1 with h2 | h2 <;> rw [h1, h2] at h <;> omega
    · intro h
      rcases sb_one n κ a (xOf (u ++ v)) i' with h1 | h1 <;> rcases su.1 with h2 | h2 <;> rw [h1, h2] at h <;> omega
    · intro h
      have hm := al_mono (fun j => xOf u j * alt1 j) (fun j => xOf (u ++ v) j * alt1 j) n (fun j hj hh => by
        have : xOf u j ≠ 0 := fun e => hh (by simp [e])
        simp only
        rw [hext j hj this])
      rcases su.1 with h1 | h1 <;> rcases suv.1 with h2 | h2 <;> rw [h1, h2] at h <;> omega
/-- The theorem: a necklace with even numbers of four kinds has fair cuts, four at most. -/
theorem necklace (hκ : ∀ i, i < 4 → cK κ n i = 2 * a i) (hn : 1 ≤ n) :
    ∃ y : Nat → Int, (∀ j, j < n → y j = 1 ∨ y j = -1) ∧ (∀ i, i < 4 → 2 * cX κ y 1 n i = cK κ n i) ∧ chg y n ≤ 4 := by
  by_cases h5 : n ≤ 5
  · have hz : ∀ (v : Int), v ≠ 0 → ∀ m i, cX κ (fun _ => 0) v m i = 0 := by
      intro v hv m i
      induction m with
      | zero => rfl
      | succ m ih => simp only [cX, ih]; rw [if_neg (fun h => hv h.2.symm)]
    exact fair_of n hn κ a hκ (fun _ => 0) (fun j _ => .inr (.inr rfl)) (fun i _ => by rw [hz 1 (by omega)]; omega) (fun i _ => by rw [hz (-1) (by omega)]; omega) (.inr h5)
  · obtain ⟨w, ho, hw, hp, hb⟩ := tucker (lab_of n κ a hκ) hn
    rcases lam_cases n κ a (xOf w) with ⟨i, hi, -, -, e⟩ | ⟨hbg, e⟩
    · rw [e] at hb
      rcases sb_one n κ a (xOf w) i with h1 | h1 <;> rw [h1] at hb <;> omega
    · refine fair_of n hn κ a hκ (xOf w) (xOf_tri w n) (fun i hi => ?_) (fun i hi => ?_) (.inl ?_)
      · have := hbg i hi; unfold bg at this; omega
      · have := hbg i hi; unfold bg at this; omega
      · rw [e] at hb
        have h2 := (al_tri _ n (z_tri n _ (xOf_tri w n))).1
        rcases h2 with h | h | ⟨h, -⟩ <;> rw [h] at hb <;> omega
end
end Tk
end Go.Proofs.Ytokhpchnnilbaaa
