import Derived.Test.YtokhpchnnilbaaaDa0
namespace Go.Proofs.Ytokhpchnnilbaaa
open Go.RowKit
set_option maxRecDepth 4000
/-! Labels sorted by size, with signs that alternate. -/
namespace Tk
def pos (a : Int) : Bool := decide (0 < a)
/-- Signs alternate, beginning with s, and sizes rise above b. -/
def altA : Bool → Nat → List Int → Bool
  | _, _, [] => true
  | s, b, a :: t => (pos a == s) && (decide (b < a.natAbs) && altA (!s) a.natAbs t)
/-- The same, but the first size may be b. -/
def altE : Bool → Nat → List Int → Bool
  | _, _, [] => true
  | s, b, a :: t => (pos a == s) && (decide (b ≤ a.natAbs) && altA (!s) a.natAbs t)
theorem altA_cons (s : Bool) (b : Nat) (a : Int) (t : List Int) : altA s b (a :: t) = ((pos a == s) && (decide (b < a.natAbs) && altA (!s) a.natAbs t)) := rfl
theorem altE_cons (s : Bool) (b : Nat) (a : Int) (t : List Int) : altE s b (a :: t) = ((pos a == s) && (decide (b ≤ a.natAbs) && altA (!s) a.natAbs t)) := rfl
/-- With one of them left out, summed up. -/
def drops (f : List Int → Bool) : List Int → Bool
  | [] => false
  | a :: t => xor (f t) (drops (fun r => f (a :: r)) t)
def SortedA : List Int → Prop
  | [] => True
  | a :: t => (∀ x ∈ t, a.natAbs ≤ x.natAbs) ∧ SortedA t
def NoOpp (l : List Int) : Prop := (∀ x ∈ l, x ≠ 0) ∧ ∀ x ∈ l, ∀ y ∈ l, x + y ≠ 0
theorem NoOpp.tail {a : Int} {t : List Int} (h : NoOpp (a :: t)) : NoOpp t := ⟨fun x hx => h.1 x (by simp [hx]), fun x hx y hy => h.2 x (by simp [hx]) y (by simp [hy])⟩
theorem drops_congr (f g : List Int → Bool) : ∀ l : List Int, (∀ r, f r = g r) → drops f l = drops g l
  | [], _ => rfl
  | a :: t, h => by simp only [drops, h t]; rw [drops_congr _ _ t (fun r => h (a :: r))]
theorem drops_false : ∀ l : List Int, drops (fun _ => false) l = false
  | [] => rfl
  | a :: t => by simp only [drops]; rw [drops_false t]; rfl
theorem drops_and (c : Bool) (f : List Int → Bool) (l : List Int) : drops (fun r => c && f r) l = (c && drops f l) := by
  cases c
  · simp only [Bool.false_and]; exact drops_false l
  · simp only [Bool.true_and]
theorem altA_above (s : Bool) (b c : Nat) (t : List Int) (h : b < c) (hc : ∀ x ∈ t, c ≤ x.natAbs) : altA s b t = altE s c t := by
  cases t with
  | nil => rfl
  | cons a t =>
    have := hc a (by simp)
    simp only [altA, altE]
    rw [show decide (b < a.natAbs) = decide (c ≤ a.natAbs) by simp; omega]
theorem key (s : Bool) (b : Nat) (l : List Int) (hs : SortedA l) (hn : NoOpp l) (hb : ∀ x ∈ l, b ≤ x.natAbs ∧ (x.natAbs = b → pos x = !s)) :
    drops (altA s b) l = xor (altA s b l) (altE (!s) b l) := by
  induction l generalizing s b with
  | nil => rfl
  | cons a t ih =>
    obtain ⟨hb1, hb2⟩ := hb a (by simp)
    have hle := hs.1
    have ha0 := hn.1 a (by simp)
    have hsame : ∀ x ∈ t, x.natAbs = a.natAbs → pos x = pos a := fun x hx e => by
      have h1 := hn.2 a (by simp) x (by simp [hx])
      have h2 : x = a := by omega
      rw [h2]
    have e0 : drops (altA s b) (a :: t) = xor (altA s b t) ((pos a == s) && (decide (b < a.natAbs) && drops (altA (!s) a.natAbs) t)) := by
      simp only [drops, altA_cons, drops_and]
    rw [e0]
    by_cases hp : pos a = s
    · have hlt : b < a.natAbs := by
        rcases Nat.lt_or_ge b a.natAbs with h | h
        · exact h
        · have := hb2 (by omega); rw [hp] at this; cases s <;> simp at this
      have hI := ih (!s) a.natAbs hs.2 hn.tail (fun x hx => ⟨hle x hx, fun e => by rw [hsame x hx e, hp]; simp⟩)
      rw [hI]
      simp only [altA_cons, altE_cons, hp, hlt, Bool.not_not, beq_self_eq_true, decide_true, Bool.true_and]
      rw [altA_above s b a.natAbs t hlt hle]
      have e1 : (s == !s) = false := by cases s <;> rfl
      rw [e1]
      cases altA (!s) a.natAbs t <;> cases altE s a.natAbs t <;> rfl
    · have hp' : pos a = !s := by cases h1 : pos a <;> cases s <;> simp_all
      have e1 : (pos a == s) = false := by rw [hp']; cases s <;> rfl
      have e2 : (pos a == !s) = true := by rw [hp']; simp
      simp only [altA_cons, altE_cons, e1, e2, Bool.false_and, Bool.true_and, Bool.xor_false, Bool.false_xor, Bool.not_not, hb1, decide_true]
      -- both ask the rest to begin with s, above the size of a
      cases t with
      | nil => rfl
      | cons x t =>
        have h1 := hle x (by simp)
        simp only [altA_cons]
        by_cases hx : pos x = s
        · have h2 : x.natAbs ≠ a.natAbs := fun e => by
            have := hsame x (by simp) e
            rw [hx, hp'] at this
            cases s <;> simp at this
          rw [show decide (b < x.natAbs) = true by simp; omega, show decide (a.natAbs < x.natAbs) = true by simp; omega]
        · have : (pos x == s) = false := by simpa using hx
          rw [this]; rfl
/-- Sorting by size. -/
def insA (a : Int) : List Int → List Int
  | [] => [a]
  | x :: t => if a.natAbs ≤ x.natAbs then a :: x :: t else x :: insA a t
def srt : List Int → List Int
  | [] => []
  | a :: t => insA a (srt t)
theorem insA_perm (a : Int) : ∀ l, (insA a l).Perm (a :: l)
  | [] => .refl _
  | x :: t => by
    unfold insA
    split
    · exact .refl _
    · exact ((insA_perm a t).cons x).trans (.swap _ _ _)
theorem srt_perm : ∀ l, (srt l).Perm l
  | [] => .refl _
  | a :: t => (insA_perm a _).trans ((srt_perm t).cons a)
theorem insA_sorted (a : Int) : ∀ l, SortedA l → SortedA (insA a l)
  | [], _ => ⟨by simp, trivial⟩
  | x :: t, h => by
    unfold insA
    split
    · rename_i hle
      exact ⟨fun y hy => by
        rcases List.mem_cons.1 hy with rfl | hy
        · exact hle
        · exact Nat.le_trans hle (h.1 y hy), h⟩
    · rename_i hle
      refine ⟨fun y hy => ?_, insA_sorted a t h.2⟩
      rcases List.mem_cons.1 ((insA_perm a t).mem_iff.1 hy) with rfl | hy
      · omega
      · exact h.1 y hy
theorem srt_sorted : ∀ l, SortedA (srt l)
  | [] => trivial
  | a :: t => insA_sorted a _ (srt_sorted t)
theorem insA_comm (a b : Int) (hab : a.natAbs = b.natAbs → a = b) : ∀ l, insA a (insA b l) = insA b (insA a l)
  | [] => by
    unfold insA
    by_cases h : a.natAbs = b.natAbs
    · rw [hab h]
    · by_cases h1 : a.natAbs ≤ b.natAbs
      · have h2 : ¬ b.natAbs ≤ a.natAbs := by omega
        simp [insA, h1, h2]
      · have h2 : b.natAbs ≤ a.natAbs := by omega
        simp [insA, h1, h2]
  | x :: t => by
    by_cases hh : a.natAbs = b.natAbs
    · rw [hab hh]
    · have ih := insA_comm a b hab t
      by_cases ha : a.natAbs ≤ x.natAbs <;> by_cases hb : b.natAbs ≤ x.natAbs
      · by_cases h1 : a.natAbs ≤ b.natAbs
        · have h2 : ¬ b.natAbs ≤ a.natAbs := by omega
          simp [insA, ha, hb, h1, h2]
        · have h2 : b.natAbs ≤ a.natAbs := by omega
          simp [insA, ha, hb, h1, h2]
      · have h1 : ¬ b.natAbs ≤ a.natAbs := by omega
        simp [insA, ha, hb, h1]
      · have h1 : ¬ a.natAbs ≤ b.natAbs := by omega
        simp [insA, ha, hb, h1]
      · simp [insA, ha, hb, ih]
theorem srt_eq {l l' : List Int} (h : l.Perm l') (hn : ∀ x ∈ l, ∀ y ∈ l, x.natAbs = y.natAbs → x = y) : srt l = srt l' := by
  induction h with
  | nil => rfl
  | cons x _ ih => simp only [srt]; rw [ih (fun a ha b hb => hn a (by simp [ha]) b (by simp [hb]))]
  | swap x y l => simp only [srt]; exact insA_comm _ _ (hn y (by simp) x (by simp)) _
  | trans h1 _ ih1 ih2 => rw [ih1 hn, ih2 (fun a ha b hb => hn a (h1.mem_iff.2 ha) b (h1.mem_iff.2 hb))]
theorem NoOpp.inj {l : List Int} (h : NoOpp l) : ∀ x ∈ l, ∀ y ∈ l, x.natAbs = y.natAbs → x = y := fun x hx y hy e => by
  have := h.2 x hx y hy
  omega
theorem NoOpp.perm {l l' : List Int} (h : NoOpp l) (p : l.Perm l') : NoOpp l' := ⟨fun x hx => h.1 x (p.mem_iff.2 hx), fun x hx y hy => h.2 x (p.mem_iff.2 hx) y (p.mem_iff.2 hy)⟩
/-- Sums with one left out do not hang on the order. -/
theorem drops_perm {l l' : List Int} (h : l.Perm l') : ∀ (f : List Int → Bool), (∀ r r', r.Perm r' → (∀ x ∈ r, x ∈ l) → f r = f r') → drops f l = drops f l' := by
  induction h with
  | nil => intro f _; rfl
  | cons x p ih =>
    intro f hf
    simp only [drops]
    rw [hf _ _ p (fun y hy => by simp [hy]), ih _ (fun r r' pr hr => hf _ _ (pr.cons x) (fun y hy => by
      rcases List.mem_cons.1 hy with rfl | hy
      · simp
      · simp [hr y hy]))]
  | swap x y l =>
    intro f hf
    simp only [drops]
    have e : drops (fun r => f (y :: x :: r)) l = drops (fun r => f (x :: y :: r)) l := by
      have hsub : ∀ (m : List Int) (g g' : List Int → Bool), (∀ r, (∀ z ∈ r, z ∈ m) → g r = g' r) → drops g m = drops g' m := by
        intro m
        induction m with
        | nil => intro g g' _; rfl
        | cons a m ih =>
          intro g g' hg
          simp only [drops]
          rw [hg m (fun z hz => by simp [hz]), ih _ _ (fun r hr => hg (a :: r) (fun z hz => by
            rcases List.mem_cons.1 hz with rfl | hz
            · simp
            · simp [hr z hz]))]
      exact hsub l _ _ (fun r hr => hf _ _ (.swap _ _ _) (fun z hz => by
        rcases List.mem_cons.1 hz with rfl | hz
        · simp
        · rcases List.mem_cons.1 hz with rfl | hz
          · simp
          · simp [hr z hz]))
    rw [e]
    cases f (x :: l) <;> cases f (y :: l) <;> simp
  | trans h1 _ ih1 ih2 =>
    intro f hf
    rw [ih1 f hf, ih2 f (fun r r' p hr => hf r r' p (fun x hx => h1.mem_iff.2 (hr x hx)))]
def altP (l : List Int) : Bool := altA true 0 (srt l)
def altM (l : List Int) : Bool := altA false 0 (srt l)
theorem altE_zero (l : List Int) (hn : NoOpp l) : altE false 0 l = altA false 0 l := by
  cases l with
  | nil => rfl
  | cons a t =>
    have := hn.1 a (by simp)
    simp only [altE_cons, altA_cons]
    rw [show decide (0 ≤ a.natAbs) = decide (0 < a.natAbs) by simp; omega]
/-- Of the ways to leave one out, those that alternate. -/
theorem drops_alt (l : List Int) (hn : NoOpp l) : drops altP l = xor (altP l) (altM l) := by
  have h1 : drops altP l = drops altP (srt l) := drops_perm (srt_perm l).symm _ (fun r r' p hr => by
    unfold altP
    rw [srt_eq p (fun x hx y hy => hn.inj x (hr x hx) y (hr y hy))])
  have hn' := hn.perm (srt_perm l).symm
  have hid : ∀ r, SortedA r → srt r = r := by
    intro r
    induction r with
    | nil => intro _; rfl
    | cons a t ih =>
      intro h
      simp only [srt, ih h.2]
      cases t with
      | nil => rfl
      | cons x t => simp [insA, h.1 x (by simp)]
  have h2 : drops altP (srt l) = drops (altA true 0) (srt l) := by
    have hs := srt_sorted l
    revert hs
    generalize srt l = m
    -- what is left of a sorted list is sorted
    have gen : ∀ (m pre : List Int), SortedA (pre ++ m) → drops (fun r => altP (pre ++ r)) m = drops (fun r => altA true 0 (pre ++ r)) m := by
      intro m
      induction m with
      | nil => intro _ _; rfl
      | cons a m ih =>
        intro pre hs
        simp only [drops]
        have hs2 : SortedA (pre ++ m) := by
          clear ih
          induction pre with
          | nil => exact hs.2
          | cons b pre ihp =>
            exact ⟨fun x hx => hs.1 x (by
              rcases List.mem_append.1 hx with h | h
              · simp [h]
              · simp [h]), ihp hs.2⟩
        have e1 : altP (pre ++ m) = altA true 0 (pre ++ m) := by unfold altP; rw [hid _ hs2]
        rw [e1]
        have := ih (pre ++ [a]) (by simpa using hs)
        simp only [List.append_assoc, List.singleton_append] at this
        rw [this]
    intro hs
    exact gen m [] hs
  rw [h1, h2, key true 0 (srt l) (srt_sorted l) hn' (fun x hx => ⟨Nat.zero_le _, fun e => absurd (by omega) (hn'.1 x hx)⟩)]
  unfold altP altM
  rw [Bool.not_true, altE_zero _ hn']
/-- Alternating labels have great sizes. -/
theorem altA_big : ∀ (l : List Int) (s : Bool) (b : Nat), altA s b l = true → l ≠ [] → ∃ x ∈ l, b + l.length ≤ x.natAbs
  | [], _, _, _, h => absurd rfl h
  | [a], s, b, h, _ => by
    simp only [altA_cons, Bool.and_eq_true, decide_eq_true_eq] at h
    exact ⟨a, by simp, by simp; omega⟩
  | a :: x :: t, s, b, h, _ => by
    simp only [altA_cons, Bool.and_eq_true, decide_eq_true_eq] at h
    obtain ⟨y, hy, hl⟩ := altA_big (x :: t) (!s) a.natAbs (by simp only [altA_cons, Bool.and_eq_true, decide_eq_true_eq]; exact h.2.2) (by simp)
    refine ⟨y, by simp only [List.mem_cons] at hy ⊢; exact .inr hy, ?_⟩
    simp only [List.length_cons] at hl ⊢
    omega
end Tk
end Go.Proofs.Ytokhpchnnilbaaa
