import Derived.Test.YtokhpchnnilbaaaDe0
import Derived.Test.YtokhpchnnilbaaaN22
import Derived.Test.YtokhpchnnilbaaaN17
namespace Go.Proofs.Ytokhpchnnilbaaa
open Go.RowKit
set_option maxRecDepth 4000
theorem cl_cons (n k f x : Nat) (l : List Int) (h1 : f ≤ x) (h2 : x < n) (h : l ∈ cl n k (x + 1)) : ((x : Int) :: l) ∈ cl n (k + 1) f := by
  simp only [cl, clF_mem, List.mem_map]
  refine ⟨x - f, by omega, l, ?_, ?_⟩
  · rw [show f + (x - f) + 1 = x + 1 by omega]; exact h
  · rw [show f + (x - f) = x by omega]
theorem dl_cl (y : Nat → Int) (n : Nat) : ∀ d, d ≤ n → ∀ f, f ≤ n - d → Tk.dl y n d ∈ cl n (Tk.dl y n d).length f
  | 0, _, f, _ => by simp [Tk.dl, cl]
  | d + 1, hd, f, hf => by
    simp only [Tk.dl]
    by_cases hc : Tk.chP y (n - (d + 1))
    · rw [if_pos hc, List.length_cons]
      refine cl_cons _ _ _ _ _ hf (by omega) ?_
      rw [show n - (d + 1) + 1 = n - d by omega]
      exact dl_cl y n d (by omega) _ (Nat.le_refl _)
    · rw [if_neg hc]
      exact dl_cl y n d (by omega) f (by omega)
theorem sg_dl (y : Nat → Int) (n : Nat) (hn : 1 ≤ n) (hy : ∀ j, j < n → y j = 1 ∨ y j = -1) (h0 : y 0 = 1) : ∀ j, j < n → sg (Tk.dl y n (n - 1)) (j + 1) = y j
  | 0, hj => by
    have h1 : haB (Tk.dl y n (n - 1)) ((0 : Nat) : Int) = false := by
      simp only [haB, decide_eq_false_iff_not]
      rw [Tk.dl_mem y n 0 (n - 1) (by omega)]
      intro h; omega
    show (if haB (Tk.dl y n (n - 1)) ((0 : Nat) : Int) = true then - sg _ 0 else sg _ 0) = y 0
    rw [h1, h0]; rfl
  | j + 1, hj => by
    have ih := sg_dl y n hn hy h0 j (by omega)
    have hm := Tk.dl_mem y n (j + 1) (n - 1) (by omega)
    show (if haB (Tk.dl y n (n - 1)) ((j + 1 : Nat) : Int) = true then - sg _ (j + 1) else sg _ (j + 1)) = y (j + 1)
    rw [ih]
    have e1 := hy j (by omega)
    have e2 := hy (j + 1) hj
    by_cases hc : y (j + 1) = y j
    · have : haB (Tk.dl y n (n - 1)) ((j + 1 : Nat) : Int) = false := by
        simp only [haB, decide_eq_false_iff_not]
        rw [hm]
        rintro ⟨-, -, -, h⟩
        exact h hc
      rw [this, hc]; rfl
    · have : haB (Tk.dl y n (n - 1)) ((j + 1 : Nat) : Int) = true := by
        simp only [haB, decide_eq_true_eq]
        rw [hm]
        exact ⟨by omega, hj, by omega, hc⟩
      rw [this]
      simp only [if_true]
      omega
theorem cnt_cK (s : ByteArray) : ∀ m k, cnt s m k = Tk.cK (kd s) m k
  | 0, _ => rfl
  | m + 1, k => by simp only [cnt, Tk.cK, cnt_cK s m k]
theorem sh_cX (s : ByteArray) (cuts : List Int) (y : Nat → Int) : ∀ m, (∀ j, j < m → sg cuts (j + 1) = y j) → ∀ k, shC s cuts m k = Tk.cX (kd s) y 1 m k
  | 0, _, _ => rfl
  | m + 1, h, k => by
    have ih := sh_cX s cuts y m (fun j hj => h j (by omega)) k
    simp only [shC, Tk.cX, ih, h m (by omega)]
    congr 1
    by_cases h1 : y m = 1 <;> by_cases h2 : kd s m = k <;> simp [h1, h2]
theorem fair_of_cX (s : ByteArray) (cuts : List Int) (y : Nat → Int) (h : ∀ j, j < s.size → sg cuts (j + 1) = y j) (hf : ∀ i, i < 4 → 2 * Tk.cX (kd s) y 1 s.size i = Tk.cK (kd s) s.size i) : fairB s cuts = true :=
  fairB_yes s cuts (fun k hk => by
    simp only [fkB, decide_eq_true_eq]
    rw [sh_cX s cuts y s.size h k, cnt_cK]
    exact hf k hk)
theorem cX_neg9 (κ : Nat → Nat) (y : Nat → Int) : ∀ m i, (∀ j, j < m → y j = 1 ∨ y j = -1) → Tk.cX κ (fun j => - y j) 1 m i + Tk.cX κ y 1 m i = Tk.cK κ m i
  | 0, _, _ => rfl
  | m + 1, i, h => by
    have ih := cX_neg9 κ y m i (fun j hj => h j (by omega))
    simp only [Tk.cX, Tk.cK]
    rcases h m (by omega) with e | e <;> by_cases hk : κ m = i <;> simp [e, hk] <;> omega
theorem chg_neg9 (y : Nat → Int) : ∀ m, Tk.chg (fun j => - y j) m = Tk.chg y m
  | 0 => rfl
  | m + 1 => by
    simp only [Tk.chg, chg_neg9 y m]
    congr 1
    by_cases h : 1 ≤ m ∧ y m ≠ y (m - 1)
    · rw [if_pos h, if_pos ⟨h.1, by have := h.2; omega⟩]
    · rw [if_neg h, if_neg (fun hh => h ⟨hh.1, by have := hh.2; omega⟩)]
theorem fair_signs (s : ByteArray) (y : Nat → Int) (hn : 1 ≤ s.size) (hy : ∀ j, j < s.size → y j = 1 ∨ y j = -1) (h0 : y 0 = 1) (hf : ∀ i, i < 4 → 2 * Tk.cX (kd s) y 1 s.size i = Tk.cK (kd s) s.size i) (hc : Tk.chg y s.size ≤ 4) : ∃ k, k ≤ 4 ∧ fcL s k ≠ [] := by
  have hl := Tk.dl_len y s.size (s.size - 1) (by omega)
  rw [show s.size - (s.size - 1) = 1 by omega] at hl
  have h1 : Tk.chg y 1 = 0 := by simp [Tk.chg]
  refine ⟨(Tk.dl y s.size (s.size - 1)).length, by omega, ?_⟩
  have hm := dl_cl y s.size (s.size - 1) (by omega) 1 (by omega)
  have hfair := fair_of_cX s _ y (sg_dl y s.size hn hy h0) hf
  intro e
  have : Tk.dl y s.size (s.size - 1) ∈ fcL s (Tk.dl y s.size (s.size - 1)).length := List.mem_filter.2 ⟨hm, hfair⟩
  rw [e] at this
  cases this
/-- The necklace theorem, in the program's words. -/
theorem fair_exists (s : ByteArray) (he : evB s = true) : ∃ k, k ≤ 4 ∧ fcL s k ≠ [] := by
  by_cases hn : s.size = 0
  · refine ⟨0, by omega, ?_⟩
    have hf : fairB s [] = true := fairB_yes s [] (fun k _ => by simp only [fkB, hn]; rfl)
    simp [fcL, cl, hf]
  · have hev := (dv2_iff _).1 he
    obtain ⟨y, hy, hf, hc⟩ := Tk.necklace s.size (kd s) (fun i => cnt s s.size i / 2) (fun i hi => by rw [← cnt_cK]; have := hev i hi; omega) (by omega)
    rcases hy 0 (by omega) with h0 | h0
    · exact fair_signs s y (by omega) hy h0 hf hc
    · refine fair_signs s (fun j => - y j) (by omega) (fun j hj => ?_) (by show - y 0 = 1; omega) (fun i hi => ?_) (by rw [chg_neg9]; exact hc)
      · have := hy j hj; show - y j = 1 ∨ - y j = -1; omega
      · have h1 := cX_neg9 (kd s) y s.size i hy
        have h2 := hf i hi
        omega
theorem fair_even (s : ByteArray) (k : Nat) (h : fcL s k ≠ []) : evB s = true := by
  obtain ⟨l, hl⟩ := List.exists_mem_of_ne_nil _ h
  have hf := (List.mem_filter.1 hl).2
  refine (dv2_iff _).2 (fun k hk => ?_)
  simp only [fairB, List.all_eq_true, List.mem_range, decide_eq_true_eq] at hf
  have := hf k hk
  omega
def nE (s : ByteArray) (k : Nat) : Bool := decide (0 < (fcL s k).length)
def fsK (s : ByteArray) : Option Nat := (List.range 5).find? (nE s)
theorem fsK_some (s : ByteArray) (k : Nat) (hk : k < 5) (h : nE s k = true) (hb : ∀ j, j < k → nE s j = false) : fsK s = some k := find_first _ 5 k hk h hb
theorem fsK_none (s : ByteArray) (hb : ∀ j, j < 5 → nE s j = false) : fsK s = none := List.find?_eq_none.2 (fun j hj => by rw [hb j (List.mem_range.1 hj)]; simp)
theorem fsK_even (s : ByteArray) (he : evB s = true) : ∃ k, k < 5 ∧ nE s k = true ∧ (∀ j, j < k → nE s j = false) ∧ fsK s = some k := by
  obtain ⟨k0, hk0, h0⟩ := fair_exists s he
  have : ∃ k, k ≤ k0 ∧ nE s k = true ∧ ∀ j, j < k → nE s j = false := by
    have hx : nE s k0 = true := by simp only [nE, decide_eq_true_eq]; exact List.length_pos_iff.2 h0
    clear h0
    induction k0 with
    | zero => exact ⟨0, Nat.le_refl _, hx, fun j hj => by omega⟩
    | succ n ih =>
      by_cases hb : ∃ j, j ≤ n ∧ nE s j = true
      · obtain ⟨j, hj, hj2⟩ := hb
        have gen : ∀ m, nE s m = true → ∃ k, k ≤ m ∧ nE s k = true ∧ ∀ j, j < k → nE s j = false := by
          intro m
          induction m using Nat.strongRecOn with
          | ind m ihm =>
            intro hm
            by_cases hh : ∃ j, j < m ∧ nE s j = true
            · obtain ⟨j, hj, hj2⟩ := hh
              obtain ⟨k, hk, h1, h2⟩ := ihm j hj hj2
              exact ⟨k, by omega, h1, h2⟩
            · refine ⟨m, Nat.le_refl _, hm, fun j hj => ?_⟩
              cases e : nE s j
              · rfl
              · exact absurd ⟨j, hj, e⟩ hh
        obtain ⟨k, hk, h1, h2⟩ := gen j hj2
        exact ⟨k, by omega, h1, h2⟩
      · refine ⟨n + 1, Nat.le_refl _, hx, fun j hj => ?_⟩
        cases e : nE s j
        · rfl
        · exact absurd ⟨j, by omega, e⟩ hb
  obtain ⟨k, hk, h1, h2⟩ := this
  exact ⟨k, by omega, h1, h2, fsK_some s k (by omega) h1 h2⟩
def fsV (s : ByteArray) : List Int := match (if goodS s = true then fsK s else none) with | some k => (fcL s k).headD [] | none => []
def fsO (s : ByteArray) : Bool := goodS s && (fsK s).isSome
end Go.Proofs.Ytokhpchnnilbaaa
