import Derived.Test.YtelchpdlfedleaaCs
import Derived.Test.YtelchpdlfedleaaZa
import Derived.Test.YtelchpdlfedleaaZg
import Derived.Test.YtelchpdlfedleaaZh
import Derived.Test.YtelchpdlfedleaaZj
namespace Go.Proofs.Ytelchpdlfedleaa
open Go.RowKit
set_option maxRecDepth 4000
/-- The other door of a cell, and the room beyond a door. -/
def otherD (xs : List Int) (n k : Nat) (d : Int × Int) : Option (Int × Int) := (dcell xs n k).find? (fun p => decide (p ≠ d))
def bothN (n : Nat) (d : Int × Int) : List Nat := (List.range (ci n).length).filter (fun k => decide (d ∈ cpairs n k))
def acrossD (n k : Nat) (d : Int × Int) : Option Nat := (bothN n d).find? (fun q => decide (q ≠ k))
def stepW (xs : List Int) (n : Nat) (s : Nat × (Int × Int)) : Option (Nat × (Int × Int)) :=
  match otherD xs n s.1 s.2 with
  | none => none
  | some d => (acrossD n s.1 d).map fun k => (k, d)
/-- The state behind i steps. -/
def stW (xs : List Int) (n : Nat) (s : Nat × (Int × Int)) : Nat → Option (Nat × (Int × Int))
  | 0 => some s
  | i + 1 => (stW xs n s i).bind (stepW xs n)
theorem otherD_some {xs : List Int} {n k : Nat} {d e : Int × Int} (h : otherD xs n k d = some e) : e ∈ dcell xs n k ∧ e ≠ d :=
  ⟨List.mem_of_find?_eq_some h, by simpa using List.find?_some h⟩
theorem acrossD_some {n k q : Nat} {d : Int × Int} (h : acrossD n k d = some q) : q < (ci n).length ∧ d ∈ cpairs n q ∧ q ≠ k := by
  have h1 := List.mem_of_find?_eq_some h
  have h2 := List.find?_some h
  simp only [bothN, List.mem_filter, List.mem_range, decide_eq_true_eq] at h1
  exact ⟨h1.1, h1.2, by simpa using h2⟩
theorem mem_dcell {xs : List Int} {n k : Nat} {d : Int × Int} : d ∈ dcell xs n k ↔ d ∈ cpairs n k ∧ drB xs d = true := by simp [dcell]
theorem bothN_two : ∀ n, n < 9 → ∀ k, k < (ci n).length → ∀ d ∈ cpairs n k, (bothN n d).length ≤ 2 := by decide +kernel
/-- A walk into a room through a door that no other room has comes to its end: there are no more steps than rooms. -/
theorem walk_ends (n : Nat) (xs : List Int) (hL : labB n xs = true) (k0 : Nat) (d0 : Int × Int) (hk : k0 < (ci n).length) (hd : d0 ∈ dcell xs n k0) (hone : ∀ q, q < (ci n).length → d0 ∈ cpairs n q → q = k0) :
    stW xs n (k0, d0) (ci n).length = none := by
  obtain ⟨h1, h2, hl, hA⟩ := labB_yes hL
  cases hs : stW xs n (k0, d0) (ci n).length with
  | none => rfl
  | some s =>
    exfalso
    have hall : ∀ i, i ≤ (ci n).length → ∃ t, stW xs n (k0, d0) i = some t := by
      intro i hi
      cases ht : stW xs n (k0, d0) i with
      | some t => exact ⟨t, rfl⟩
      | none =>
        exfalso
        have : ∀ m, stW xs n (k0, d0) (i + m) = none := by
          intro m
          induction m with
          | zero => exact ht
          | succ m ih => rw [← Nat.add_assoc]; simp only [stW, ih]; rfl
        have e := this ((ci n).length - i)
        rw [show i + ((ci n).length - i) = (ci n).length by omega, hs] at e
        cases e
    let k : Nat → Nat := fun i => ((stW xs n (k0, d0) i).getD (k0, d0)).1
    let d : Nat → Int × Int := fun i => ((stW xs n (k0, d0) i).getD (k0, d0)).2
    have hstep : ∀ i, i < (ci n).length → otherD xs n (k i) (d i) = some (d (i + 1)) ∧ acrossD n (k i) (d (i + 1)) = some (k (i + 1)) := by
      intro i hi
      obtain ⟨t, ht⟩ := hall i (by omega)
      obtain ⟨t', ht'⟩ := hall (i + 1) (by omega)
      have e := ht'
      simp only [stW, ht, Option.bind_some, stepW] at e
      have ek : k i = t.1 := by simp only [k, ht, Option.getD_some]
      have ed : d i = t.2 := by simp only [d, ht, Option.getD_some]
      have ek' : k (i + 1) = t'.1 := by simp only [k, ht', Option.getD_some]
      have ed' : d (i + 1) = t'.2 := by simp only [d, ht', Option.getD_some]
      rw [ek, ed, ek', ed']
      cases ho : otherD xs n t.1 t.2 with
      | none => rw [ho] at e; dsimp only at e; cases e
      | some dd =>
        rw [ho] at e
        dsimp only at e
        cases ha : acrossD n t.1 dd with
        | none => rw [ha] at e; cases e
        | some q =>
          rw [ha] at e
          simp only [Option.map_some, Option.some.injEq] at e
          subst e
          exact ⟨rfl, ha⟩
    have hinv : ∀ i, i ≤ (ci n).length → k i < (ci n).length ∧ d i ∈ dcell xs n (k i) := by
      intro i
      induction i with
      | zero => intro _; exact ⟨hk, hd⟩
      | succ i ih =>
        intro hi
        obtain ⟨h3, h4⟩ := hstep i (by omega)
        have a := acrossD_some h4
        have b := mem_dcell.1 (otherD_some h3).1
        exact ⟨a.1, mem_dcell.2 ⟨a.2.1, b.2⟩⟩
    have hinj := walk_inj k d (ci n).length (fun e q => q < (ci n).length ∧ e ∈ dcell xs n q) (fun i hi => hinv i hi)
      (fun i hi => ⟨(hinv i (by omega)).1, (otherD_some (hstep i hi).1).1⟩) (fun i hi => (otherD_some (hstep i hi).1).2) (fun i hi => (acrossD_some (hstep i hi).2).2.2)
      (fun i hi e he => by
        have hki := (hinv i (by omega)).1
        have a := (hinv i (by omega)).2
        have b := otherD_some (hstep i hi).1
        rcases dcell_cases n (k i) xs hL hki with ⟨-, p, hp⟩ | ⟨-, hp | ⟨p, q, hp, -⟩⟩
        · rw [hp] at a b
          simp only [List.mem_singleton] at a b
          exact absurd (b.1.trans a.symm) b.2
        · rw [hp] at a; simp at a
        · have he2 := he.2
          have a2 := a
          have b2 := b.1
          rw [hp] at he2 a2 b2
          simp only [List.mem_cons, List.not_mem_nil, or_false] at he2 a2 b2
          have hne := b.2
          rcases he2 with r | r <;> rcases a2 with s1 | s1 <;> rcases b2 with s2 | s2
          · exact absurd (s2.trans s1.symm) hne
          · exact .inl (r.trans s1.symm)
          · exact .inr (r.trans s2.symm)
          · exact absurd (s2.trans s1.symm) hne
          · exact absurd (s2.trans s1.symm) hne
          · exact .inr (r.trans s2.symm)
          · exact .inl (r.trans s1.symm)
          · exact absurd (s2.trans s1.symm) hne)
      (fun e a b c ha hb hc hab hac => by
        by_cases hbc : b = c
        · exact hbc
        · exfalso
          have hm : ∀ q, q < (ci n).length ∧ e ∈ dcell xs n q → q ∈ bothN n e := fun q hq => by
            simp only [bothN, List.mem_filter, List.mem_range, decide_eq_true_eq]
            exact ⟨hq.1, (mem_dcell.1 hq.2).1⟩
          have h3 := three_len (hm a ha) (hm b hb) (hm c hc) hab hac hbc
          have h4 := bothN_two n (by omega) a ha.1 e (mem_dcell.1 ha.2).1
          omega)
      (fun a ha => hone a ha.1 (mem_dcell.1 ha.2).1)
    have := inj_le (ci n).length k (ci n).length (fun i hi => (hinv i hi).1) hinj
    omega
end Go.Proofs.Ytelchpdlfedleaa

namespace Go.Proofs.Ytelchpdlfedleaa
open Go.RowKit
set_option maxRecDepth 4000
theorem cpairs_sorted {n k : Nat} (h2 : n ≤ 8) (hk : k < (ci n).length) {p : Int × Int} (h : p ∈ cpairs n k) : p.1 < p.2 := by
  obtain ⟨u1, u2⟩ := cq_up n (by omega) k hk
  simp only [cpairs, List.mem_cons, List.not_mem_nil, or_false] at h
  rcases h with rfl | rfl | rfl <;> simp only <;> omega
/-- A cell has both points exactly if they are one of its pairs. -/
theorem with_pairs {n k : Nat} (h2 : n ≤ 8) (hk : k < (ci n).length) (p : Int × Int) (h : p.1 ≠ p.2) : withB (ci n) p.1 p.2 k = decide (inner p ∈ cpairs n k) := by
  obtain ⟨-, hall⟩ := ci_cq n (by omega)
  obtain ⟨hrow, -⟩ := hall k hk
  obtain ⟨u1, u2⟩ := cq_up n (by omega) k hk
  obtain ⟨a, b⟩ := p
  simp only at h
  simp only [withB, hrow, hasB, cpairs, inner]
  generalize cq n k 0 = x at *
  generalize cq n k 1 = y at *
  generalize cq n k 2 = z at *
  by_cases hlt : a < b
  · rw [if_pos hlt, if_neg (by omega)]
    rw [Bool.eq_iff_iff]
    simp only [Bool.and_eq_true, decide_eq_true_eq, List.mem_cons, List.not_mem_nil, or_false, Prod.mk.injEq]
    omega
  · rw [if_neg hlt, if_pos (by omega)]
    rw [Bool.eq_iff_iff]
    simp only [Bool.and_eq_true, decide_eq_true_eq, List.mem_cons, List.not_mem_nil, or_false, Prod.mk.injEq]
    omega
/-- The room beyond a door, from a room or from outside. -/
def acrossI (n : Nat) (fr : Int) (d : Int × Int) : Option Nat := (bothN n d).find? (fun q => decide ((q : Int) ≠ fr))
theorem acrossI_nat (n k : Nat) (d : Int × Int) : acrossI n k d = acrossD n k d := by
  unfold acrossI acrossD
  congr 1
  funext q
  rw [Bool.eq_iff_iff]
  simp only [decide_eq_true_eq]
  omega
/-- The walk from a room and a door: the rooms, the last door, and whether it ends in a full one. -/
def wlk (xs : List Int) (n : Nat) : Nat → Nat × (Int × Int) → List Nat × (Int × Int) × Bool
  | 0, s => ([], s.2, false)
  | f + 1, s => match otherD xs n s.1 s.2 with
    | none => ([s.1], s.2, true)
    | some d => match acrossD n s.1 d with
      | none => ([s.1], d, false)
      | some k => (s.1 :: (wlk xs n f (k, d)).1, (wlk xs n f (k, d)).2)
theorem st_none {xs : List Int} {n : Nat} {s : Nat × (Int × Int)} {i : Nat} (h : stW xs n s i = none) : ∀ m, stW xs n s (i + m) = none := by
  intro m
  induction m with
  | zero => exact h
  | succ m ih => rw [← Nat.add_assoc]; simp only [stW, ih]; rfl
theorem st_lt {xs : List Int} {n F : Nat} {s t : Nat × (Int × Int)} {i : Nat} (hF : stW xs n s F = none) (h : stW xs n s i = some t) : i < F := by
  rcases Nat.lt_or_ge i F with h1 | h1
  · exact h1
  · exfalso
    have := st_none hF (i - F)
    rw [show F + (i - F) = i by omega, h] at this
    cases this
theorem st_step {xs : List Int} {n : Nat} {s : Nat × (Int × Int)} {i k k' : Nat} {d d' : Int × Int} (h : stW xs n s i = some (k, d)) (ho : otherD xs n k d = some d') (ha : acrossD n k d' = some k') : stW xs n s (i + 1) = some (k', d') := by
  simp only [stW, h, Option.bind_some, stepW, ho, ha, Option.map_some]
theorem bothN_lt {n : Nat} {d : Int × Int} {q : Nat} (h : q ∈ bothN n d) : q < (ci n).length ∧ d ∈ cpairs n q := by
  simpa [bothN] using h
/-- Where a walk may begin: a room with this door, from which it comes to an end. -/
def Starts (xs : List Int) (n : Nat) (s : Nat × (Int × Int)) : Prop := s.1 < (ci n).length ∧ s.2 ∈ dcell xs n s.1 ∧ stW xs n s (ci n).length = none
theorem other_full {xs : List Int} {n k : Nat} {d : Int × Int} (hL : labB n xs = true) (hk : k < (ci n).length) (hd : d ∈ dcell xs n k) : (otherD xs n k d).isNone = fullB xs n k := by
  rcases dcell_cases n k xs hL hk with ⟨hf, p, hp⟩ | ⟨hf, hp | ⟨p, q, hp, hpq⟩⟩
  · rw [hf]
    rw [hp] at hd
    simp only [List.mem_singleton] at hd
    subst hd
    simp [otherD, hp]
  · rw [hp] at hd
    simp at hd
  · rw [hf]
    rw [hp] at hd
    simp only [List.mem_cons, List.not_mem_nil, or_false] at hd
    rcases hd with rfl | rfl
    · simp [otherD, hp]
      exact fun h => hpq h.symm
    · simp [otherD, hp, hpq]
theorem st_inv {xs : List Int} {n : Nat} {s : Nat × (Int × Int)} (hs : Starts xs n s) : ∀ i t, stW xs n s i = some t → t.1 < (ci n).length ∧ t.2 ∈ dcell xs n t.1
  | 0, t, h => by
    simp only [stW, Option.some.injEq] at h
    subst h
    exact ⟨hs.1, hs.2.1⟩
  | i + 1, t, h => by
    simp only [stW] at h
    cases hu : stW xs n s i with
    | none => rw [hu] at h; cases h
    | some u =>
      rw [hu] at h
      simp only [Option.bind_some, stepW] at h
      cases ho : otherD xs n u.1 u.2 with
      | none => rw [ho] at h; dsimp only at h; cases h
      | some d =>
        rw [ho] at h
        dsimp only at h
        cases ha : acrossD n u.1 d with
        | none => rw [ha] at h; cases h
        | some k =>
          rw [ha] at h
          simp only [Option.map_some, Option.some.injEq] at h
          subst h
          have a := acrossD_some ha
          have b := mem_dcell.1 (otherD_some ho).1
          exact ⟨a.1, mem_dcell.2 ⟨a.2.1, b.2⟩⟩
/-- The last room of a walk is full exactly if the walk says so, and the walk has a room. -/
theorem wlk_last {xs : List Int} {n : Nat} (hL : labB n xs = true) : ∀ f (s : Nat × (Int × Int)), s.1 < (ci n).length → s.2 ∈ dcell xs n s.1 → ∃ pre l, (wlk xs n (f + 1) s).1 = pre ++ [l] ∧ l < (ci n).length ∧ (stW xs n s (f + 1) = none → fullB xs n l = (wlk xs n (f + 1) s).2.2)
  | f, s, h1, h2 => by
    have e := other_full hL h1 h2
    cases ho : otherD xs n s.1 s.2 with
    | none =>
      rw [ho] at e
      refine ⟨[], s.1, by simp only [wlk, ho, List.nil_append], h1, fun _ => ?_⟩
      simp only [wlk, ho]
      exact e.symm
    | some d =>
      rw [ho] at e
      cases ha : acrossD n s.1 d with
      | none =>
        refine ⟨[], s.1, by simp only [wlk, ho, ha, List.nil_append], h1, fun _ => ?_⟩
        simp only [wlk, ho, ha]
        exact e.symm
      | some k =>
        have a := acrossD_some ha
        have b := mem_dcell.1 (otherD_some ho).1
        match f with
        | 0 =>
          refine ⟨[], s.1, by simp only [wlk, ho, ha, List.nil_append], h1, fun hn => ?_⟩
          simp only [stW, Option.bind_some, stepW, ho, ha, Option.map_some] at hn
          cases hn
        | f + 1 =>
          obtain ⟨pre, l, e1, e2, e3⟩ := wlk_last hL f (k, d) a.1 (mem_dcell.2 ⟨a.2.1, b.2⟩)
          refine ⟨s.1 :: pre, l, ?_, e2, fun hn => ?_⟩
          · rw [wlk]
            simp only [ho, ha, e1, List.cons_append]
          · rw [wlk]
            simp only [ho, ha]
            refine e3 ?_
            have : ∀ i, stW xs n s (i + 1) = stW xs n (k, d) i := by
              intro i
              induction i with
              | zero => simp only [stW, Option.bind_some, stepW, ho, ha, Option.map_some]
              | succ i ih => rw [stW, ih]; rfl
            rw [← this]
            exact hn
/-- The whole walk through a door, from a room or from outside. -/
def wfrom (xs : List Int) (n : Nat) (fr : Int) (d : Int × Int) : List Nat × (Int × Int) × Bool :=
  match acrossI n fr (inner d) with
  | none => ([], inner d, false)
  | some k => wlk xs n (ci n).length (k, inner d)
end Go.Proofs.Ytelchpdlfedleaa

namespace Go.Proofs.Ytelchpdlfedleaa
open Go.RowKit
set_option maxRecDepth 4000
/-- Where the walk from a room and a door stands: ahead of a room, or outside. -/
def At (xs : List Int) (n : Nat) (s0 : Nat × (Int × Int)) (L : List Nat) (R : (Int × Int) × Bool) (out : List Nat) (room : Int) (p : Int × Int) : Prop :=
  (∃ k : Nat, room = k ∧ Starts xs n s0 ∧ stW xs n s0 out.length = some (k, inner p) ∧ out ++ (wlk xs n ((ci n).length - out.length) (k, inner p)).1 = L ∧ (wlk xs n ((ci n).length - out.length) (k, inner p)).2 = R) ∨
  (room = -1 ∧ out = L ∧ R = (inner p, false))
theorem at_start (xs : List Int) (n : Nat) (s0 : Nat × (Int × Int)) (p : Int × Int) (hs : Starts xs n s0) (h : s0.2 = inner p) : At xs n s0 (wlk xs n (ci n).length s0).1 (wlk xs n (ci n).length s0).2 [] s0.1 p := by
  obtain ⟨k, d⟩ := s0
  simp only at h
  subst h
  exact .inl ⟨k, rfl, hs, rfl, rfl, rfl⟩
/-- One room further. -/
theorem at_room {xs : List Int} {n : Nat} {s0 : Nat × (Int × Int)} {L : List Nat} {R : (Int × Int) × Bool} {out : List Nat} {room : Int} {p : Int × Int} (hL : labB n xs = true) (h : At xs n s0 L R out room p) (hr : room ≠ -1) :
    ∃ k : Nat, room = k ∧ k < (ci n).length ∧ out.length < (ci n).length ∧ inner p ∈ dcell xs n k ∧ fullB xs n k = (otherD xs n k (inner p)).isNone ∧
      (otherD xs n k (inner p) = none → out ++ [k] = L ∧ R = (inner p, true)) ∧
      ∀ d, otherD xs n k (inner p) = some d → d.1 < d.2 ∧ inner d = d ∧ At xs n s0 L R (out ++ [k]) (beyI (acrossI n k d)) d := by
  obtain ⟨h1, h2, -⟩ := labB_yes hL
  rcases h with ⟨k, rfl, hs, hst, e1, e2⟩ | ⟨rfl, -, -⟩
  · have hlt := st_lt hs.2.2 hst
    have hinv := st_inv hs _ _ hst
    simp only at hinv
    refine ⟨k, rfl, hinv.1, hlt, hinv.2, (other_full hL hinv.1 hinv.2).symm, fun ho => ?_, fun d ho => ?_⟩
    · obtain ⟨f, hf⟩ : ∃ f, (ci n).length - out.length = f + 1 := ⟨(ci n).length - out.length - 1, by omega⟩
      rw [hf, wlk] at e1 e2
      simp only [ho] at e1 e2
      exact ⟨e1, e2.symm⟩
    · have hd := otherD_some ho
      have hsd := cpairs_sorted h2 hinv.1 (mem_dcell.1 hd.1).1
      refine ⟨hsd, inner_sorted hsd, ?_⟩
      obtain ⟨f, hf⟩ : ∃ f, (ci n).length - out.length = f + 1 := ⟨(ci n).length - out.length - 1, by omega⟩
      rw [hf, wlk] at e1 e2
      simp only [ho] at e1 e2
      rw [acrossI_nat]
      cases ha : acrossD n k d with
      | none =>
        rw [ha] at e1 e2
        simp only at e1 e2
        exact .inr ⟨rfl, e1, by rw [inner_sorted hsd]; exact e2.symm⟩
      | some q =>
        rw [ha] at e1 e2
        simp only at e1 e2
        refine .inl ⟨q, rfl, hs, ?_, ?_, ?_⟩
        · rw [List.length_append, inner_sorted hsd]
          exact st_step hst ho ha
        · rw [List.length_append, inner_sorted hsd, show (ci n).length - (out.length + [k].length) = f by simp; omega, List.append_assoc]
          exact e1
        · rw [List.length_append, inner_sorted hsd, show (ci n).length - (out.length + [k].length) = f by simp; omega]
          exact e2
  · exact absurd rfl hr
/-- A walk may begin at a door, from a room or from outside. -/
def Goes (xs : List Int) (n : Nat) (fr : Int) (p : Int × Int) : Prop := p.1 ≠ p.2 ∧ ∀ k, acrossI n fr (inner p) = some k → Starts xs n (k, inner p)
theorem goes_at {xs : List Int} {n : Nat} {fr : Int} {p : Int × Int} (h : Goes xs n fr p) : ∃ s0 L R, wfrom xs n fr p = (L, R) ∧ At xs n s0 L R [] (beyI (acrossI n fr (inner p))) p := by
  cases ha : acrossI n fr (inner p) with
  | none => exact ⟨(0, inner p), [], (inner p, false), by simp [wfrom, ha], .inr ⟨rfl, rfl, rfl⟩⟩
  | some k => exact ⟨(k, inner p), _, _, by simp only [wfrom, ha], at_start xs n (k, inner p) p (h.2 k ha) rfl⟩
end Go.Proofs.Ytelchpdlfedleaa

namespace Go.Proofs.Ytelchpdlfedleaa
open Go.RowKit
set_option maxRecDepth 4000
def Kf (kf : Nat) (k : Nat → Nat) : Nat → Nat
  | 0 => kf
  | i + 1 => k i
def Df (d : Nat → Int × Int) : Nat → Option (Int × Int)
  | 0 => none
  | i + 1 => some (d i)
def Mm (xs : List Int) (n kf : Nat) : Option (Int × Int) → Nat → Prop
  | none, q => q = kf
  | some e, q => q < (ci n).length ∧ e ∈ dcell xs n q
/-- A walk out of a full room by its door comes to its end. -/
theorem walk_ends_full (n : Nat) (xs : List Int) (hL : labB n xs = true) (kf : Nat) (d0 : Int × Int) (hkf : kf < (ci n).length) (hdf : dcell xs n kf = [d0]) (k0 : Nat) (ha0 : acrossD n kf d0 = some k0) :
    stW xs n (k0, d0) (ci n).length = none := by
  obtain ⟨h1, h2, hl, hA⟩ := labB_yes hL
  have hk0 := acrossD_some ha0
  have hk : k0 < (ci n).length := hk0.1
  have hd0 : drB xs d0 = true := (mem_dcell.1 (by rw [hdf]; simp : d0 ∈ dcell xs n kf)).2
  have hd : d0 ∈ dcell xs n k0 := mem_dcell.2 ⟨hk0.2.1, hd0⟩
  cases hs : stW xs n (k0, d0) (ci n).length with
  | none => rfl
  | some s =>
    exfalso
    have hall : ∀ i, i ≤ (ci n).length → ∃ t, stW xs n (k0, d0) i = some t := by
      intro i hi
      cases ht : stW xs n (k0, d0) i with
      | some t => exact ⟨t, rfl⟩
      | none =>
        exfalso
        have : ∀ m, stW xs n (k0, d0) (i + m) = none := by
          intro m
          induction m with
          | zero => exact ht
          | succ m ih => rw [← Nat.add_assoc]; simp only [stW, ih]; rfl
        have e := this ((ci n).length - i)
        rw [show i + ((ci n).length - i) = (ci n).length by omega, hs] at e
        cases e
    let k : Nat → Nat := fun i => ((stW xs n (k0, d0) i).getD (k0, d0)).1
    let d : Nat → Int × Int := fun i => ((stW xs n (k0, d0) i).getD (k0, d0)).2
    have hstep : ∀ i, i < (ci n).length → otherD xs n (k i) (d i) = some (d (i + 1)) ∧ acrossD n (k i) (d (i + 1)) = some (k (i + 1)) := by
      intro i hi
      obtain ⟨t, ht⟩ := hall i (by omega)
      obtain ⟨t', ht'⟩ := hall (i + 1) (by omega)
      have e := ht'
      simp only [stW, ht, Option.bind_some, stepW] at e
      have ek : k i = t.1 := by simp only [k, ht, Option.getD_some]
      have ed : d i = t.2 := by simp only [d, ht, Option.getD_some]
      have ek' : k (i + 1) = t'.1 := by simp only [k, ht', Option.getD_some]
      have ed' : d (i + 1) = t'.2 := by simp only [d, ht', Option.getD_some]
      rw [ek, ed, ek', ed']
      cases ho : otherD xs n t.1 t.2 with
      | none => rw [ho] at e; dsimp only at e; cases e
      | some dd =>
        rw [ho] at e
        dsimp only at e
        cases ha : acrossD n t.1 dd with
        | none => rw [ha] at e; cases e
        | some q =>
          rw [ha] at e
          simp only [Option.map_some, Option.some.injEq] at e
          subst e
          exact ⟨rfl, ha⟩
    have hinv : ∀ i, i ≤ (ci n).length → k i < (ci n).length ∧ d i ∈ dcell xs n (k i) := by
      intro i
      induction i with
      | zero => intro _; exact ⟨hk, hd⟩
      | succ i ih =>
        intro hi
        obtain ⟨h3, h4⟩ := hstep i (by omega)
        have a := acrossD_some h4
        have b := mem_dcell.1 (otherD_some h3).1
        exact ⟨a.1, mem_dcell.2 ⟨a.2.1, b.2⟩⟩
    have hfull : ∀ i, i < (ci n).length → k i ≠ kf := fun i hi e => by
      have a := (hinv i (by omega)).2
      have b := otherD_some (hstep i hi).1
      rw [e, hdf] at a b
      simp only [List.mem_singleton] at a b
      exact b.2 (b.1.trans a.symm)
    have hd00 : d 0 = d0 := rfl
    have hk00 : k 0 = k0 := rfl
    clear_value k d
    have hinj := walk_inj (Kf kf k) (Df d) (ci n).length (Mm xs n kf)
      (fun i hi => by
        match i, hi with
        | 0, _ => exact rfl
        | i + 1, hi => exact hinv i (by omega))
      (fun i hi => by
        match i, hi with
        | 0, _ => exact ⟨hkf, by rw [hd00]; show d0 ∈ dcell xs n kf; rw [hdf]; exact List.mem_singleton.2 rfl⟩
        | i + 1, hi => exact ⟨(hinv i (by omega)).1, (otherD_some (hstep i (by omega)).1).1⟩)
      (fun i hi => by
        match i, hi with
        | 0, _ => exact fun e => by cases e
        | i + 1, hi => exact fun e => (otherD_some (hstep i (by omega)).1).2 (Option.some.inj e))
      (fun i hi => by
        match i, hi with
        | 0, _ => exact (by rw [hk00]; exact hk0.2.2 : k 0 ≠ kf)
        | i + 1, hi => exact (acrossD_some (hstep i (by omega)).2).2.2)
      (fun i hi e he => by
        cases i with
        | zero =>
          cases e with
          | none => exact .inl rfl
          | some e =>
            have h : e ∈ dcell xs n kf := he.2
            rw [hdf, List.mem_singleton] at h
            exact .inr (by rw [h, ← hd00]; rfl)
        | succ i =>
         cases e with
         | none => exact absurd he (hfull i (by omega))
         | some e =>
          have hki := (hinv i (by omega)).1
          have a := (hinv i (by omega)).2
          have b := otherD_some (hstep i (by omega)).1
          have he : k i < (ci n).length ∧ e ∈ dcell xs n (k i) := he
          suffices h : e = d i ∨ e = d (i + 1) by
            rcases h with h | h
            · exact .inl (by rw [h]; rfl)
            · exact .inr (by rw [h]; rfl)
          rcases dcell_cases n (k i) xs hL hki with ⟨-, p, hp⟩ | ⟨-, hp | ⟨p, q, hp, -⟩⟩
          · rw [hp] at a b
            simp only [List.mem_singleton] at a b
            exact absurd (b.1.trans a.symm) b.2
          · rw [hp] at a; simp at a
          · have he2 := he.2
            have a2 := a
            have b2 := b.1
            rw [hp] at he2 a2 b2
            simp only [List.mem_cons, List.not_mem_nil, or_false] at he2 a2 b2
            have hne := b.2
            rcases he2 with r | r <;> rcases a2 with s1 | s1 <;> rcases b2 with s2 | s2
            · exact absurd (s2.trans s1.symm) hne
            · exact .inl (r.trans s1.symm)
            · exact .inr (r.trans s2.symm)
            · exact absurd (s2.trans s1.symm) hne
            · exact absurd (s2.trans s1.symm) hne
            · exact .inr (r.trans s2.symm)
            · exact .inl (r.trans s1.symm)
            · exact absurd (s2.trans s1.symm) hne)
      (fun e a b c ha hb hc hab hac => by
        cases e with
        | none => exact Eq.trans (b := kf) hb (Eq.symm hc)
        | some e =>
          by_cases hbc : b = c
          · exact hbc
          · exfalso
            have hm : ∀ q, q < (ci n).length ∧ e ∈ dcell xs n q → q ∈ bothN n e := fun q hq => by
              simp only [bothN, List.mem_filter, List.mem_range, decide_eq_true_eq]
              exact ⟨hq.1, (mem_dcell.1 hq.2).1⟩
            have h3 := three_len (hm a ha) (hm b hb) (hm c hc) hab hac hbc
            have h4 := bothN_two n (by omega) a ha.1 e (mem_dcell.1 ha.2).1
            omega)
      (fun a ha => ha)
    have := inj_le (ci n).length (Kf kf k) (ci n).length (fun i hi => by
      match i, hi with
      | 0, _ => exact hkf
      | i + 1, hi => exact (hinv i (by omega)).1) hinj
    omega
theorem border_one : ∀ n, n < 9 → ∀ t, t < 3 * n → (bothN n (inner (bp n t))).length = 1 ∧ (bp n t).1 ≠ (bp n t).2 := by decide +kernel
theorem doorB_comm (xs : List Int) (i j : Int) : doorB xs i j = doorB xs j i := by
  simp only [doorB, Int.add_comm]
theorem drB_inner (xs : List Int) (p : Int × Int) : drB xs (inner p) = drB xs p := by
  obtain ⟨a, b⟩ := p
  by_cases h : a < b
  · rw [inner_sorted h]
  · have e : inner (a, b) = (b, a) ∨ a = b := by
      simp only [inner]
      by_cases h2 : a = b
      · exact .inr h2
      · rw [if_neg h, if_pos (by omega)]; exact .inl rfl
    rcases e with e | rfl
    · rw [e]; exact doorB_comm xs b a
    · simp [inner, drB]
/-- A walk may begin at each door of the border. -/
theorem goes_border {xs : List Int} {n : Nat} (hL : labB n xs = true) {d : Int × Int} (hd : d ∈ bds n xs) : Goes xs n (-1) d ∧ ∃ k, acrossI n (-1) (inner d) = some k := by
  obtain ⟨h1, h2, hl, hA⟩ := labB_yes hL
  simp only [bds, bps, List.mem_filter, List.mem_map, List.mem_range] at hd
  obtain ⟨⟨t, ht, rfl⟩, hdr⟩ := hd
  obtain ⟨hone, hne⟩ := border_one n (by omega) t ht
  obtain ⟨k, hk⟩ := List.length_eq_one_iff.1 hone
  have hac : acrossI n (-1) (inner (bp n t)) = some k := by
    rw [acrossI, hk, List.find?_cons_of_pos (by simp)]
  have hmem := bothN_lt (n := n) (d := inner (bp n t)) (q := k) (by rw [hk]; simp)
  refine ⟨⟨hne, fun k' hk' => ?_⟩, k, hac⟩
  rw [hac, Option.some.injEq] at hk'
  subst hk'
  have hdc : inner (bp n t) ∈ dcell xs n k := mem_dcell.2 ⟨hmem.2, by rw [drB_inner]; exact hdr⟩
  refine ⟨hmem.1, hdc, walk_ends n xs hL k _ hmem.1 hdc (fun q hq hm => ?_)⟩
  have : q ∈ bothN n (inner (bp n t)) := by
    simp only [bothN, List.mem_filter, List.mem_range, decide_eq_true_eq]
    exact ⟨hq, hm⟩
  rw [hk, List.mem_singleton] at this
  exact this
/-- .. and at the door of a full room, out of it. -/
theorem goes_full {xs : List Int} {n k : Nat} (hL : labB n xs = true) (hk : k < (ci n).length) {d : Int × Int} (hd : dcell xs n k = [d]) : Goes xs n k d := by
  obtain ⟨h1, h2, hl, hA⟩ := labB_yes hL
  have hdm := mem_dcell.1 (by rw [hd]; simp : d ∈ dcell xs n k)
  have hs := cpairs_sorted h2 hk hdm.1
  refine ⟨by omega, fun k0 hk0 => ?_⟩
  rw [inner_sorted hs] at hk0 ⊢
  rw [acrossI_nat] at hk0
  have ha := acrossD_some hk0
  exact ⟨ha.1, mem_dcell.2 ⟨ha.2.1, hdm.2⟩, walk_ends_full n xs hL k d hk hd k0 hk0⟩
end Go.Proofs.Ytelchpdlfedleaa
