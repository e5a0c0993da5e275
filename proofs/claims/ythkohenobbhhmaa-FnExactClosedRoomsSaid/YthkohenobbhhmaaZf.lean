import Derived.Test.YthkohenobbhhmaaZa
import Derived.Test.YthkohenobbhhmaaZb
import Derived.Test.YthkohenobbhhmaaZc
import Derived.Test.YthkohenobbhhmaaZd
import Derived.Test.YthkohenobbhhmaaZe
namespace Go.Proofs.Ythkohenobbhhmaa
/-- A walk through doors comes to no room twice: each room that it leaves has two doors, each door is in two rooms at most, and the door at the beginning is in the first room alone. -/
theorem walk_inj {α : Type} (k : Nat → Nat) (d : Nat → α) (N : Nat) (mem : α → Nat → Prop)
    (hin : ∀ i, i ≤ N → mem (d i) (k i)) (hout : ∀ i, i < N → mem (d (i + 1)) (k i)) (hne : ∀ i, i < N → d (i + 1) ≠ d i) (hk : ∀ i, i < N → k (i + 1) ≠ k i)
    (htwo : ∀ i, i < N → ∀ e, mem e (k i) → e = d i ∨ e = d (i + 1)) (hcells : ∀ e a b c, mem e a → mem e b → mem e c → a ≠ b → a ≠ c → b = c)
    (hstart : ∀ a, mem (d 0) a → a = k 0) : ∀ j, j ≤ N → ∀ i, i < j → k i ≠ k j := by
  intro j
  induction j using Nat.strongRecOn with
  | _ j ih =>
    intro hj i hij he
    obtain ⟨m, rfl⟩ : ∃ m, j = m + 1 := ⟨j - 1, by omega⟩
    have hom := hout m (by omega)
    have hkm := hk m (by omega)
    have hmem := hin (m + 1) hj
    rw [← he] at hmem
    rcases htwo i (by omega) _ hmem with e | e
    · match i, hij, he, e, hmem with
      | 0, _, he, e, _ =>
        rw [e] at hom
        have := hstart _ hom
        exact hkm (by rw [this, he])
      | i + 1, hij, he, e, hmem =>
        have h1 := hout i (by omega)
        rw [e] at hom hmem
        have h2 := hcells (d (i + 1)) (k (i + 1)) (k m) (k i) hmem hom h1 (by rw [he]; exact hkm) (hk i (by omega))
        exact ih m (by omega) (by omega) i (by omega) h2.symm
    · have h1 := hin (i + 1) (by omega)
      rw [e] at hom hmem
      have h2 := hcells (d (i + 1)) (k i) (k m) (k (i + 1)) hmem hom h1 (by rw [he]; exact hkm) (fun h => hk i (by omega) h.symm)
      by_cases hlt : i + 1 < m
      · exact ih m (by omega) (by omega) (i + 1) hlt h2.symm
      · by_cases heq : i + 1 = m
        · subst heq
          exact hne (i + 1) (by omega) e
        · have : i = m := by omega
          subst this
          exact hkm (by rw [← he])
/-- .. so that it is no longer than there are rooms. -/
theorem inj_le : ∀ (M : Nat) (k : Nat → Nat) (N : Nat), (∀ i, i ≤ N → k i < M) → (∀ j, j ≤ N → ∀ i, i < j → k i ≠ k j) → N + 1 ≤ M
  | 0, k, N, hb, _ => absurd (hb 0 (Nat.zero_le _)) (Nat.not_lt_zero _)
  | M + 1, k, N, hb, hinj => by
    by_cases h : ∃ i, i ≤ N ∧ k i = M
    · obtain ⟨q, hq, hM⟩ := h
      match N, hb, hinj, hq with
      | 0, _, _, _ => omega
      | N + 1, hb, hinj, hq =>
        have hd : ∀ i, i ≤ N + 1 → i ≠ q → k i ≠ M := fun i hi hne e => by
          rcases Nat.lt_or_gt_of_ne hne with h | h
          · exact hinj q hq i h (by rw [e, hM])
          · exact hinj i hi q h (by rw [e, hM])
        have := inj_le M (fun i => if i < q then k i else k (i + 1)) N (fun i hi => by
          by_cases hlt : i < q
          · simp only [hlt, if_true]
            have h1 := hb i (by omega)
            have h2 := hd i (by omega) (by omega)
            omega
          · simp only [hlt, if_false]
            have h1 := hb (i + 1) (by omega)
            have h2 := hd (i + 1) (by omega) (by omega)
            omega) (fun j hj i hij => by
          by_cases h1 : i < q
          · by_cases h2 : j < q
            · simp only [h1, h2, if_true]; exact hinj j (by omega) i hij
            · simp only [h1, h2, if_true, if_false]; exact hinj (j + 1) (by omega) i (by omega)
          · have h2 : ¬ j < q := by omega
            simp only [h1, h2, if_false]; exact hinj (j + 1) (by omega) (i + 1) (by omega))
        omega
    · have := inj_le M k N (fun i hi => by
        have h1 := hb i hi
        have h2 : k i ≠ M := fun e => h ⟨i, hi, e⟩
        omega) hinj
      omega
end Go.Proofs.Ythkohenobbhhmaa

namespace Go.Proofs.Ythkohenobbhhmaa
open Go.RowKit
set_option maxRecDepth 4000
theorem cq_up : ∀ n, n < 9 → ∀ k, k < (ci n).length → cq n k 0 < cq n k 1 ∧ cq n k 1 < cq n k 2 := by decide +kernel
/-- The doors of a cell. -/
def dcell (xs : List Int) (n k : Nat) : List (Int × Int) := (cpairs n k).filter (drB xs)
/-- A full cell has one door, others none or two. -/
theorem dcell_cases (n k : Nat) (xs : List Int) (hL : labB n xs = true) (hk : k < (ci n).length) :
    (fullB xs n k = true ∧ ∃ p, dcell xs n k = [p]) ∨ (fullB xs n k = false ∧ (dcell xs n k = [] ∨ ∃ p q, dcell xs n k = [p, q] ∧ p ≠ q)) := by
  obtain ⟨h1, h2, hl, hA⟩ := labB_yes hL
  obtain ⟨-, hall⟩ := ci_cq n (by omega)
  obtain ⟨-, -, -, -, hp, hq, hr⟩ := hall k hk
  obtain ⟨u1, u2⟩ := cq_up n (by omega) k hk
  have a := lab3 hA (cq n k 0) (by omega)
  have b := lab3 hA (cq n k 1) (by omega)
  have c := lab3 hA (cq n k 2) (by omega)
  have e1 : ((cq n k 0 : Int), (cq n k 1 : Int)) ≠ ((cq n k 0 : Int), (cq n k 2 : Int)) := fun e => by
    have := congrArg Prod.snd e; simp at this; omega
  have e2 : ((cq n k 0 : Int), (cq n k 1 : Int)) ≠ ((cq n k 1 : Int), (cq n k 2 : Int)) := fun e => by
    have := congrArg Prod.fst e; simp at this; omega
  have e3 : ((cq n k 0 : Int), (cq n k 2 : Int)) ≠ ((cq n k 1 : Int), (cq n k 2 : Int)) := fun e => by
    have := congrArg Prod.fst e; simp at this; omega
  simp only [dcell, fullB, cl, sn, cpairs, drB, doorB, List.filter_cons, List.filter_nil, Int.toNat_natCast, List.getD_cons_zero, List.getD_cons_succ]
  rcases a with a | a | a <;> rcases b with b | b | b <;> rcases c with c | c | c <;> simp only [a, b, c] <;>
    first
    | exact .inl ⟨rfl, _, rfl⟩
    | exact .inr ⟨rfl, .inl rfl⟩
    | exact .inr ⟨rfl, .inr ⟨_, _, rfl, e1⟩⟩
    | exact .inr ⟨rfl, .inr ⟨_, _, rfl, e2⟩⟩
    | exact .inr ⟨rfl, .inr ⟨_, _, rfl, e3⟩⟩
end Go.Proofs.Ythkohenobbhhmaa

namespace Go.Proofs.Ythkohenobbhhmaa
open Go.RowKit
set_option maxRecDepth 4000
/-- The other door of a cell, and the room beyond a door. -/
def otherD (xs : List Int) (n k : Nat) (d : Int × Int) : Option (Int × Int) := (dcell xs n k).find? (fun p => decide (p ≠ d))
def bothN (n : Nat) (d : Int × Int) : List Nat := (List.range (ci n).length).filter (fun k => decide (d ∈ cpairs n k))
def acrossD (n k : Nat) (d : Int × Int) : Option Nat := (bothN n d).find? (fun q => decide (q ≠ k))
def stepW (xs : List Int) (n : Nat) (s : Nat × (Int × Int)) : Option (Nat × (Int × Int)) :=
  match otherD xs n s.1 s.2 with
  | none => none
  | some d => (acrossD n s.1 d).map fun k => (k, d)
/-- The state behind i steps. -/
def stW (xs : List Int) (n : Nat) (s : Nat × (Int × Int)) : Nat → Option (Nat × (Int × Int))
  | 0 => some s
  | i + 1 => (stW xs n s i).bind (stepW xs n)
theorem otherD_some {xs : List Int} {n k : Nat} {d e : Int × Int} (h : otherD xs n k d = some e) : e ∈ dcell xs n k ∧ e ≠ d :=
  ⟨List.mem_of_find?_eq_some h, by simpa using List.find?_some h⟩
theorem acrossD_some {n k q : Nat} {d : Int × Int} (h : acrossD n k d = some q) : q < (ci n).length ∧ d ∈ cpairs n q ∧ q ≠ k := by
  have h1 := List.mem_of_find?_eq_some h
  have h2 := List.find?_some h
  simp only [bothN, List.mem_filter, List.mem_range, decide_eq_true_eq] at h1
  exact ⟨h1.1, h1.2, by simpa using h2⟩
theorem mem_dcell {xs : List Int} {n k : Nat} {d : Int × Int} : d ∈ dcell xs n k ↔ d ∈ cpairs n k ∧ drB xs d = true := by simp [dcell]
theorem three_len {L : List Nat} {a b c : Nat} (ha : a ∈ L) (hb : b ∈ L) (hc : c ∈ L) (hab : a ≠ b) (hac : a ≠ c) (hbc : b ≠ c) : 3 ≤ L.length := by
  match L, ha, hb, hc with
  | [], ha, _, _ => simp at ha
  | [x], ha, hb, _ => simp at ha hb; omega
  | [x, y], ha, hb, hc => simp at ha hb hc; omega
  | x :: y :: z :: L, _, _, _ => simp
theorem bothN_two : ∀ n, n < 9 → ∀ k, k < (ci n).length → ∀ d ∈ cpairs n k, (bothN n d).length ≤ 2 := by decide +kernel
/-- A walk into a room through a door that no other room has comes to its end: there are no more steps than rooms. -/
theorem walk_ends (n : Nat) (xs : List Int) (hL : labB n xs = true) (k0 : Nat) (d0 : Int × Int) (hk : k0 < (ci n).length) (hd : d0 ∈ dcell xs n k0) (hone : ∀ q, q < (ci n).length → d0 ∈ cpairs n q → q = k0) :
    stW xs n (k0, d0) (ci n).length = none := by
  obtain ⟨h1, h2, hl, hA⟩ := labB_yes hL
  cases hs : stW xs n (k0, d0) (ci n).length with
  | none => rfl
  | some s =>
    exfalso
    have hall : ∀ i, i ≤ (ci n).length → ∃ t, stW xs n (k0, d0) i = some t := by
      intro i hi
      cases ht : stW xs n (k0, d0) i with
      | some t => exact ⟨t, rfl⟩
      | none =>
        exfalso
        have : ∀ m, stW xs n (k0, d0) (i + m) = none := by
          intro m
          induction m with
          | zero => exact ht
          | succ m ih => rw [← Nat.add_assoc]; simp only [stW, ih]; rfl
        have e := this ((ci n).length - i)
        rw [show i + ((ci n).length - i) = (ci n).length by omega, hs] at e
        cases e
    let k : Nat → Nat := fun i => ((stW xs n (k0, d0) i).getD (k0, d0)).1
    let d : Nat → Int × Int := fun i => ((stW xs n (k0, d0) i).getD (k0, d0)).2
    have hstep : ∀ i, i < (ci n).length → otherD xs n (k i) (d i) = some (d (i + 1)) ∧ acrossD n (k i) (d (i + 1)) = some (k (i + 1)) := by
      intro i hi
      obtain ⟨t, ht⟩ := hall i (by omega)
      obtain ⟨t', ht'⟩ := hall (i + 1) (by omega)
      have e := ht'
      simp only [stW, ht, Option.bind_some, stepW] at e
      have ek : k i = t.1 := by simp only [k, ht, Option.getD_some]
      have ed : d i = t.2 := by simp only [d, ht, Option.getD_some]
      have ek' : k (i + 1) = t'.1 := by simp only [k, ht', Option.getD_some]
      have ed' : d (i + 1) = t'.2 := by simp only [d, ht', Option.getD_some]
      rw [ek, ed, ek', ed']
      cases ho : otherD xs n t.1 t.2 with
      | none => rw [ho] at e; dsimp only at e; cases e
      | some dd =>
        rw [ho] at e
        dsimp only at e
        cases ha : acrossD n t.1 dd with
        | none => rw [ha] at e; cases e
        | some q =>
          rw [ha] at e
          simp only [Option.map_some, Option.some.injEq] at e
          subst e
          exact ⟨rfl, ha⟩
    have hinv : ∀ i, i ≤ (ci n).length → k i < (ci n).length ∧ d i ∈ dcell xs n (k i) := by
      intro i
      induction i with
      | zero => intro _; exact ⟨hk, hd⟩
      | succ i ih =>
        intro hi
        obtain ⟨h3, h4⟩ := hstep i (by omega)
        have a := acrossD_some h4
        have b := mem_dcell.1 (otherD_some h3).1
        exact ⟨a.1, mem_dcell.2 ⟨a.2.1, b.2⟩⟩
    have hinj := walk_inj k d (ci n).length (fun e q => q < (ci n).length ∧ e ∈ dcell xs n q) (fun i hi => hinv i hi)
      (fun i hi => ⟨(hinv i (by omega)).1, (otherD_some (hstep i hi).1).1⟩) (fun i hi => (otherD_some (hstep i hi).1).2) (fun i hi => (acrossD_some (hstep i hi).2).2.2)
      (fun i hi e he => by
        have hki := (hinv i (by omega)).1
        have a := (hinv i (by omega)).2
        have b := otherD_some (hstep i hi).1
        rcases dcell_cases n (k i) xs hL hki with ⟨-, p, hp⟩ | ⟨-, hp | ⟨p, q, hp, -⟩⟩
        · rw [hp] at a b
          simp only [List.mem_singleton] at a b
          exact absurd (b.1.trans a.symm) b.2
        · rw [hp] at a; simp at a
        · have he2 := he.2
          have a2 := a
          have b2 := b.1
          rw [hp] at he2 a2 b2
          simp only [List.mem_cons, List.not_mem_nil, or_false] at he2 a2 b2
          have hne := b.2
          rcases he2 with r | r <;> rcases a2 with s1 | s1 <;> rcases b2 with s2 | s2
          · exact absurd (s2.trans s1.symm) hne
          · exact .inl (r.trans s1.symm)
          · exact .inr (r.trans s2.symm)
          · exact absurd (s2.trans s1.symm) hne
          · exact absurd (s2.trans s1.symm) hne
          · exact .inr (r.trans s2.symm)
          · exact .inl (r.trans s1.symm)
          · exact absurd (s2.trans s1.symm) hne)
      (fun e a b c ha hb hc hab hac => by
        by_cases hbc : b = c
        · exact hbc
        · exfalso
          have hm : ∀ q, q < (ci n).length ∧ e ∈ dcell xs n q → q ∈ bothN n e := fun q hq => by
            simp only [bothN, List.mem_filter, List.mem_range, decide_eq_true_eq]
            exact ⟨hq.1, (mem_dcell.1 hq.2).1⟩
          have h3 := three_len (hm a ha) (hm b hb) (hm c hc) hab hac hbc
          have h4 := bothN_two n (by omega) a ha.1 e (mem_dcell.1 ha.2).1
          omega)
      (fun a ha => hone a ha.1 (mem_dcell.1 ha.2).1)
    have := inj_le (ci n).length k (ci n).length (fun i hi => (hinv i hi).1) hinj
    omega
end Go.Proofs.Ythkohenobbhhmaa

namespace Go.Proofs.Ythkohenobbhhmaa
open Go.RowKit
set_option maxRecDepth 4000
/-- A door with its lesser point first. -/
def inner (p : Int × Int) : Int × Int := (if p.1 < p.2 then p.1 else p.2, if p.1 > p.2 then p.1 else p.2)
/-- The same two points, in either order. -/
def sameB (p q : Int × Int) : Bool := (p.1 == q.1 && p.2 == q.2) || (p.1 == q.2 && p.2 == q.1)
theorem same_inner (p q : Int × Int) : sameB p q = decide (inner p = inner q) := by
  obtain ⟨a, b⟩ := p
  obtain ⟨c, d⟩ := q
  by_cases h : sameB (a, b) (c, d) = true
  · rw [h]
    symm
    simp only [decide_eq_true_eq, inner, Prod.mk.injEq]
    simp only [sameB, Bool.or_eq_true, Bool.and_eq_true, beq_iff_eq] at h
    rcases h with ⟨rfl, rfl⟩ | ⟨rfl, rfl⟩
    · exact ⟨rfl, rfl⟩
    · constructor <;> split <;> split <;> omega
  · rw [Bool.not_eq_true] at h
    rw [h]
    symm
    simp only [decide_eq_false_iff_not, inner, Prod.mk.injEq]
    intro ⟨h1, h2⟩
    simp only [sameB, Bool.or_eq_false_iff, Bool.and_eq_false_iff, beq_eq_false_iff_ne] at h
    split at h1 <;> split at h1 <;> split at h2 <;> split at h2 <;> omega
theorem inner_sorted {p : Int × Int} (h : p.1 < p.2) : inner p = p := by
  obtain ⟨a, b⟩ := p
  simp only [inner] at h ⊢
  rw [if_pos h, if_neg (by omega)]
theorem inner_lt {p : Int × Int} (h : p.1 ≠ p.2) : (inner p).1 < (inner p).2 := by
  obtain ⟨a, b⟩ := p
  simp only [inner] at h ⊢
  split <;> split <;> omega
theorem cpairs_sorted {n k : Nat} (h2 : n ≤ 8) (hk : k < (ci n).length) {p : Int × Int} (h : p ∈ cpairs n k) : p.1 < p.2 := by
  obtain ⟨u1, u2⟩ := cq_up n (by omega) k hk
  simp only [cpairs, List.mem_cons, List.not_mem_nil, or_false] at h
  rcases h with rfl | rfl | rfl <;> simp only <;> omega
/-- A cell has both points exactly if they are one of its pairs. -/
theorem with_pairs {n k : Nat} (h2 : n ≤ 8) (hk : k < (ci n).length) (p : Int × Int) (h : p.1 ≠ p.2) : withB (ci n) p.1 p.2 k = decide (inner p ∈ cpairs n k) := by
  obtain ⟨-, hall⟩ := ci_cq n (by omega)
  obtain ⟨hrow, -⟩ := hall k hk
  obtain ⟨u1, u2⟩ := cq_up n (by omega) k hk
  obtain ⟨a, b⟩ := p
  simp only at h
  simp only [withB, hrow, hasB, cpairs, inner]
  generalize cq n k 0 = x at *
  generalize cq n k 1 = y at *
  generalize cq n k 2 = z at *
  by_cases hlt : a < b
  · rw [if_pos hlt, if_neg (by omega)]
    rw [Bool.eq_iff_iff]
    simp only [Bool.and_eq_true, decide_eq_true_eq, List.mem_cons, List.not_mem_nil, or_false, Prod.mk.injEq]
    omega
  · rw [if_neg hlt, if_pos (by omega)]
    rw [Bool.eq_iff_iff]
    simp only [Bool.and_eq_true, decide_eq_true_eq, List.mem_cons, List.not_mem_nil, or_false, Prod.mk.injEq]
    omega
/-- The room beyond a door, from a room or from outside. -/
def acrossI (n : Nat) (fr : Int) (d : Int × Int) : Option Nat := (bothN n d).find? (fun q => decide ((q : Int) ≠ fr))
theorem acrossI_nat (n k : Nat) (d : Int × Int) : acrossI n k d = acrossD n k d := by
  unfold acrossI acrossD
  congr 1
  funext q
  rw [Bool.eq_iff_iff]
  simp only [decide_eq_true_eq]
  omega
/-- The walk from a room and a door: the rooms, the last door, and whether it ends in a full one. -/
def wlk (xs : List Int) (n : Nat) : Nat → Nat × (Int × Int) → List Nat × (Int × Int) × Bool
  | 0, s => ([], s.2, false)
  | f + 1, s => match otherD xs n s.1 s.2 with
    | none => ([s.1], s.2, true)
    | some d => match acrossD n s.1 d with
      | none => ([s.1], d, false)
      | some k => (s.1 :: (wlk xs n f (k, d)).1, (wlk xs n f (k, d)).2)
theorem st_none {xs : List Int} {n : Nat} {s : Nat × (Int × Int)} {i : Nat} (h : stW xs n s i = none) : ∀ m, stW xs n s (i + m) = none := by
  intro m
  induction m with
  | zero => exact h
  | succ m ih => rw [← Nat.add_assoc]; simp only [stW, ih]; rfl
theorem st_lt {xs : List Int} {n F : Nat} {s t : Nat × (Int × Int)} {i : Nat} (hF : stW xs n s F = none) (h : stW xs n s i = some t) : i < F := by
  rcases Nat.lt_or_ge i F with h1 | h1
  · exact h1
  · exfalso
    have := st_none hF (i - F)
    rw [show F + (i - F) = i by omega, h] at this
    cases this
theorem st_step {xs : List Int} {n : Nat} {s : Nat × (Int × Int)} {i k k' : Nat} {d d' : Int × Int} (h : stW xs n s i = some (k, d)) (ho : otherD xs n k d = some d') (ha : acrossD n k d' = some k') : stW xs n s (i + 1) = some (k', d') := by
  simp only [stW, h, Option.bind_some, stepW, ho, ha, Option.map_some]
theorem bothN_lt {n : Nat} {d : Int × Int} {q : Nat} (h : q ∈ bothN n d) : q < (ci n).length ∧ d ∈ cpairs n q := by
  simpa [bothN] using h
/-- Where a walk may begin: a room with this door, from which it comes to an end. -/
def Starts (xs : List Int) (n : Nat) (s : Nat × (Int × Int)) : Prop := s.1 < (ci n).length ∧ s.2 ∈ dcell xs n s.1 ∧ stW xs n s (ci n).length = none
theorem other_full {xs : List Int} {n k : Nat} {d : Int × Int} (hL : labB n xs = true) (hk : k < (ci n).length) (hd : d ∈ dcell xs n k) : (otherD xs n k d).isNone = fullB xs n k := by
  rcases dcell_cases n k xs hL hk with ⟨hf, p, hp⟩ | ⟨hf, hp | ⟨p, q, hp, hpq⟩⟩
  · rw [hf]
    rw [hp] at hd
    simp only [List.mem_singleton] at hd
    subst hd
    simp [otherD, hp]
  · rw [hp] at hd
    simp at hd
  · rw [hf]
    rw [hp] at hd
    simp only [List.mem_cons, List.not_mem_nil, or_false] at hd
    rcases hd with rfl | rfl
    · simp [otherD, hp]
      exact fun h => hpq h.symm
    · simp [otherD, hp, hpq]
theorem st_inv {xs : List Int} {n : Nat} {s : Nat × (Int × Int)} (hs : Starts xs n s) : ∀ i t, stW xs n s i = some t → t.1 < (ci n).length ∧ t.2 ∈ dcell xs n t.1
  | 0, t, h => by
    simp only [stW, Option.some.injEq] at h
    subst h
    exact ⟨hs.1, hs.2.1⟩
  | i + 1, t, h => by
    simp only [stW] at h
    cases hu : stW xs n s i with
    | none => rw [hu] at h; cases h
    | some u =>
      rw [hu] at h
      simp only [Option.bind_some, stepW] at h
      cases ho : otherD xs n u.1 u.2 with
      | none => rw [ho] at h; dsimp only at h; cases h
      | some d =>
        rw [ho] at h
        dsimp only at h
        cases ha : acrossD n u.1 d with
        | none => rw [ha] at h; cases h
        | some k =>
          rw [ha] at h
          simp only [Option.map_some, Option.some.injEq] at h
          subst h
          have a := acrossD_some ha
          have b := mem_dcell.1 (otherD_some ho).1
          exact ⟨a.1, mem_dcell.2 ⟨a.2.1, b.2⟩⟩
/-- The last room of a walk is full exactly if the walk says so, and the walk has a room. -/
theorem wlk_last {xs : List Int} {n : Nat} (hL : labB n xs = true) : ∀ f (s : Nat × (Int × Int)), s.1 < (ci n).length → s.2 ∈ dcell xs n s.1 → ∃ pre l, (wlk xs n (f + 1) s).1 = pre ++ [l] ∧ l < (ci n).length ∧ (stW xs n s (f + 1) = none → fullB xs n l = (wlk xs n (f + 1) s).2.2)
  | f, s, h1, h2 => by
    have e := other_full hL h1 h2
    cases ho : otherD xs n s.1 s.2 with
    | none =>
      rw [ho] at e
      refine ⟨[], s.1, by simp only [wlk, ho, List.nil_append], h1, fun _ => ?_⟩
      simp only [wlk, ho]
      exact e.symm
    | some d =>
      rw [ho] at e
      cases ha : acrossD n s.1 d with
      | none =>
        refine ⟨[], s.1, by simp only [wlk, ho, ha, List.nil_append], h1, fun _ => ?_⟩
        simp only [wlk, ho, ha]
        exact e.symm
      | some k =>
        have a := acrossD_some ha
        have b := mem_dcell.1 (otherD_some ho).1
        match f with
        | 0 =>
          refine ⟨[], s.1, by simp only [wlk, ho, ha, List.nil_append], h1, fun hn => ?_⟩
          simp only [stW, Option.bind_some, stepW, ho, ha, Option.map_some] at hn
          cases hn
        | f + 1 =>
          obtain ⟨pre, l, e1, e2, e3⟩ := wlk_last hL f (k, d) a.1 (mem_dcell.2 ⟨a.2.1, b.2⟩)
          refine ⟨s.1 :: pre, l, ?_, e2, fun hn => ?_⟩
          · rw [wlk]
            simp only [ho, ha, e1, List.cons_append]
          · rw [wlk]
            simp only [ho, ha]
            refine e3 ?_
            have : ∀ i, stW xs n s (i + 1) = stW xs n (k, d) i := by
              intro i
              induction i with
              | zero => simp only [stW, Option.bind_some, stepW, ho, ha, Option.map_some]
              | succ i ih => rw [stW, ih]; rfl
            rw [← this]
            exact hn
/-- The whole walk through a door, from a room or from outside. -/
def wfrom (xs : List Int) (n : Nat) (fr : Int) (d : Int × Int) : List Nat × (Int × Int) × Bool :=
  match acrossI n fr (inner d) with
  | none => ([], inner d, false)
  | some k => wlk xs n (ci n).length (k, inner d)
end Go.Proofs.Ythkohenobbhhmaa

namespace Go.Proofs.Ythkohenobbhhmaa
open Go.RowKit
set_option maxRecDepth 4000
theorem eqPair (a b c d : Int) (w : World) : (Op.equalIn 10000 54 (.agg #[.int .i64 a, .int .i64 b]) (.agg #[.int .i64 c, .int .i64 d])).run Try.prog w = .ok (a == c && b == d) w := by
  have u3 := Try.underlying3
  have a3 := Try.isAgg3
  have z3 := Try.sizeOf3
  rw [show (10000 : Nat) = 9999 + 1 from rfl, Op.equalIn]
  simp only [Sem.run_bind, run_underlying Try.underlying54, Result.andThen_ok]
  simp only [Std.Legacy.Range.forIn_eq_forIn_range', Std.Legacy.Range.size, Nat.sub_zero, Nat.add_sub_cancel, Nat.div_one, List.range'_succ, List.range'_zero, List.forIn_cons, List.forIn_nil]
  go_simp
  by_cases h1 : a = c <;> by_cases h2 : b = d <;> simp [h1, h2]
set_option maxHeartbeats 400000 in
theorem isSame_any (a b c d : Int) (w : World) :
    Calls Try.prog 91 #[.agg #[.int .i64 a, .int .i64 b], .agg #[.int .i64 c, .int .i64 d]] w fun e w' => e = .returned (.bool (sameB (a, b) (c, d))) ∧ Below w.heap.size w w' := by
  have q1 := fun w => eqPair a b c d w
  have q2 := fun w => eqPair a b d c w
  have HS : Hid (sameB (a, b) (c, d) = ((a == c && b == d) || (a == d && b == c))) := Lib.hid rfl
  have hB := balloc (balloc (Below.refl w.heap.size w) (.cells #[.int .i64 a, .int .i64 b] 54)) (.cells #[.int .i64 c, .int .i64 d] 54)
  generalize (a == c && b == d) = B1 at q1 HS
  generalize (a == d && b == c) = B2 at q2 HS
  cases B1
  · go_enter Try.func91, Try.ntmps91
    go_wp2_with fail
    go_ret
    exact ⟨by rw [HS.out]; rfl, hB⟩
  · go_enter Try.func91, Try.ntmps91
    go_wp2_with fail
    go_ret
    exact ⟨by rw [HS.out]; rfl, hB⟩
theorem find_step {α : Type} (z : α) (ps : List α) (f : α → Bool) (k : Nat) (hk : k < ps.length) (h : (ps.take k).find? f = none) :
    (f (ps.getD k z) = true → ps.find? f = some (ps.getD k z)) ∧ (f (ps.getD k z) = false → (ps.take (k + 1)).find? f = none) := by
  have e : ps.getD k z = ps[k] := by rw [List.getD_eq_getElem?_getD, List.getElem?_eq_getElem hk]; rfl
  rw [e]
  refine ⟨fun hf => ?_, fun hf => ?_⟩
  · have h2 : (ps.take k ++ ps[k] :: ps.drop (k + 1)).find? f = some ps[k] := by rw [List.find?_append, h, Option.none_or, List.find?_cons_of_pos hf]
    rwa [← List.drop_eq_getElem_cons hk, List.take_append_drop] at h2
  · rw [List.take_add_one, List.getElem?_eq_getElem hk, List.find?_append, h]
    simp [hf]
/-- What a search for a pair answers. -/
def fp (o : Option (Int × Int)) : Value := .tuple #[.agg #[.int .i64 (o.getD (0, 0)).1, .int .i64 (o.getD (0, 0)).2], .bool o.isSome]
theorem ret_fp {o : Option (Int × Int)} {p : Int × Int} (h : o = some p) : Ending.returned (.tuple #[.agg #[.int .i64 p.1, .int .i64 p.2], .bool true]) = .returned (fp o) := by rw [h]; rfl
theorem ret_fn {o : Option (Int × Int)} (h : o = none) : Ending.returned (.tuple #[.agg #[.int .i64 0, .int .i64 0], .bool false]) = .returned (fp o) := by rw [h]; rfl
set_option maxHeartbeats 1600000 in
theorem borderDoor_any (n : Nat) (xs : List Int) (base : Nat) (r : Array Value) (x y : Int) (w : World) (hL : labB n xs = true) (hrv : RoomsV w base n xs r) :
    Calls Try.prog 70 #[.agg r, .agg #[.int .i64 x, .int .i64 y]] w fun e w' => e = .returned (fp ((bds n xs).find? (fun d => sameB d (x, y)))) ∧ Below w.heap.size w w' := by
  obtain ⟨hsz, hone, -⟩ := rooms_row hL hrv
  have hb0 := balloc (balloc (balloc (Below.refl w.heap.size w) (.cells r 52)) (.cells #[.int .i64 x, .int .i64 y] 54)) (.cells #[.int .i64 0, .int .i64 0] 54)
  have hg1 : ((((w.alloc (.cells r 52)).alloc (.cells #[.int .i64 x, .int .i64 y] 54)).alloc (.cells #[.int .i64 0, .int .i64 0] 54))).heap[w.heap.size]? = some (.cells r 52 (0, 0)) := by
    rw [Below.heap_alloc _ _ _ (by simp; omega), Below.heap_alloc _ _ _ (by simp)]
    exact heap_alloc_new w _
  have p0 : ((((w.alloc (.cells r 52)).alloc (.cells #[.int .i64 x, .int .i64 y] 54)).alloc (.cells #[.int .i64 0, .int .i64 0] 54))).cell? ⟨w.heap.size + 1, 0, none⟩ = some (.int .i64 x) := by go_cell
  have p1 : ((((w.alloc (.cells r 52)).alloc (.cells #[.int .i64 x, .int .i64 y] 54)).alloc (.cells #[.int .i64 0, .int .i64 0] 54))).cell? ⟨w.heap.size + 1, 1, none⟩ = some (.int .i64 y) := by go_cell
  have hz1 : ((((w.alloc (.cells r 52)).alloc (.cells #[.int .i64 x, .int .i64 y] 54)).alloc (.cells #[.int .i64 0, .int .i64 0] 54))).heap[w.heap.size + 1 + 1]? = some (.cells #[.int .i64 0, .int .i64 0] 54 (0, 0)) := by
    have e := heap_alloc_new ((w.alloc (.cells r 52)).alloc (.cells #[.int .i64 x, .int .i64 y] 54)) (.cells #[.int .i64 0, .int .i64 0] 54)
    rwa [World.size_alloc, World.size_alloc] at e
  have hsz3 : ((((w.alloc (.cells r 52)).alloc (.cells #[.int .i64 x, .int .i64 y] 54)).alloc (.cells #[.int .i64 0, .int .i64 0] 54))).heap.size = w.heap.size + 3 := by simp
  have HD := Lib.hid (fun w' hb => borderDoors_any n xs base r w' hL (rooms_now hrv (bnext hb0 hb)))
  have HF := Lib.hid (fun k hk h => find_step (0, 0) (bds n xs) (fun d => sameB d (x, y)) k hk h)
  have hbl := bds_len n xs
  obtain ⟨h1, h2, -⟩ := labB_yes hL
  have HBD : Hid ((bps n (3 * n)).filter (drB xs) = bds n xs) := Lib.hid rfl
  clear hL hrv
  generalize bds n xs = ps at HF hbl HBD ⊢
  go_enter Try.func70, Try.ntmps70
  go_wp2_with ((with_reducible refine load_rm_g ?_ _ rfl w.heap.size ?_ r hg1 hsz ?_); exact rfl; exact rfl; simp only [Act.put, List.setIfInBounds_toArray, List.set_cons_zero, List.set_cons_succ])
  generalize ((((w.alloc (.cells r 52)).alloc (.cells #[.int .i64 x, .int .i64 y] 54)).alloc (.cells #[.int .i64 0, .int .i64 0] 54))) = w1 at hb0 hg1 p0 p1 hz1 HD hsz3 ⊢
  refine (HD.out w1 (Below.refl _ _)).mono ?_
  rintro e w2 ⟨v, rfl, hp, hb2⟩
  rw [HBD.out] at hp
  obtain ⟨a, cap, b, rfl, hrd⟩ := pair_shape hp
  have HR := Lib.hid hrd
  have p0' := (hb2.cell (p := ⟨w.heap.size + 1, 0, none⟩) (by show w.heap.size + 1 < _; omega)).trans p0
  have p1' := (hb2.cell (p := ⟨w.heap.size + 1, 1, none⟩) (by show w.heap.size + 1 < _; omega)).trans p1
  have hz2' := (hb2.block (w.heap.size + 1 + 1) (by omega)).trans hz1
  have hz2 := hb2.size
  have hB2 := bnext hb0 hb2
  clear p0 p1 hz1 hp hrd hg1 hb2 hb0 HD HBD
  go_wp2_with fail
  go_loopw [11] (fun v11 wr => ∃ k : Nat, k ≤ ps.length ∧ v11 = .int .i64 k ∧ Hid ((ps.take k).find? (fun d => sameB d (x, y)) = none) ∧ Below w2.heap.size w2 wr) (fun v11 _ => ps.length - (intOf v11).toNat)
  case atStart => exact ⟨0, Nat.zero_le _, rfl, Lib.hid (by simp), Below.refl _ _⟩
  case round =>
    obtain ⟨k, hk, rfl, hf, hb⟩ := hrel
    have q0 := (hb.cell (p := ⟨w.heap.size + 1, 0, none⟩) (by show w.heap.size + 1 < _; omega)).trans p0'
    have q1 := (hb.cell (p := ⟨w.heap.size + 1, 1, none⟩) (by show w.heap.size + 1 < _; omega)).trans p1'
    have hz := hb.size
    by_cases hlt : k < ps.length
    · obtain ⟨rfl, hbl', c0, c1⟩ := (HR.out.later hb) k hlt
      have HS := Lib.hid (HF.out k hlt hf.out)
      have hki : (k : Int) < (ps.length : Int) := by omega
      generalize ps.getD k (0, 0) = p at c0 c1 HS
      obtain ⟨p, q⟩ := p
      simp only at c0 c1
      obtain ⟨wi, hwi⟩ : ∃ wi : World, wi = wr := ⟨_, rfl⟩
      subst hwi
      have r0 : (wi.alloc (.cells #[.int .i64 p, .int .i64 q] 54)).cell? ⟨w.heap.size + 1, 0, none⟩ = some (.int .i64 x) := (World.cell?_alloc_past _ _ _ (by show w.heap.size + 1 < _; omega)).trans q0
      have r1 : (wi.alloc (.cells #[.int .i64 p, .int .i64 q] 54)).cell? ⟨w.heap.size + 1, 1, none⟩ = some (.int .i64 y) := (World.cell?_alloc_past _ _ _ (by show w.heap.size + 1 < _; omega)).trans q1
      have hb' := hb.alloc hz (.cells #[.int .i64 p, .int .i64 q] 54)
      clear q0 q1 hb
      go_wp2_with fail
      refine (isSame_any p q x y _).mono ?_
      rintro e w3 ⟨rfl, hb3⟩
      have hb4 := hb'.trans (hb3.mono (by simp; omega))
      have t0 : w3.cell? ⟨wi.heap.size, 0, none⟩ = some (.int .i64 p) := by rw [hb3.cell (by simp)]; go_cell
      have t1 : w3.cell? ⟨wi.heap.size, 1, none⟩ = some (.int .i64 q) := by rw [hb3.cell (by simp)]; go_cell
      have hz4 := (hb4.block (w.heap.size + 1 + 1) (by omega)).trans hz2'
      have hB4 := bnext hB2 hb4
      clear hb' hb3 r0 r1 c0 c1
      cases hs : sameB (p, q) (x, y)
      · have e := Lib.hid (HS.out.2 hs)
        clear hs
        go_wp2_with fail
        go_roundw
        case rel => exact ⟨k + 1, by omega, by go_num, e, hb4⟩
        case measure => simp [intOf]; omega
      · have e := Lib.hid (HS.out.1 hs)
        clear hs
        go_wp2_with ((with_reducible refine store_blk blkPair rfl _ _ rfl (w.heap.size + 1 + 1) #[.int .i64 p, .int .i64 q] #[.int .i64 0, .int .i64 0] ?_ ?_ hz4 (pair_size _ _) (pair_size _ _) (pair_one _ _) w.heap.size (by omega) ?_); exact rfl; exact rfl; intro w5 hg5 hb5 _ _)
        exact bodyPost_ret (results_blk blkPair rfl _ _ (w.heap.size + 1 + 1) _ (.bool true) rfl rfl hg5 rfl) rfl ⟨ret_fp e.out, hB4.trans hb5⟩
    · have e : Hid (ps.find? (fun d => sameB d (x, y)) = none) := by
        have := hf.out
        rwa [show k = ps.length by omega, List.take_length] at this
      have hz4 := (hb.block (w.heap.size + 1 + 1) (by omega)).trans hz2'
      have hB4 := bnext hB2 hb
      go_wp2_with ((with_reducible refine store_blk blkPair rfl _ _ rfl (w.heap.size + 1 + 1) #[.int .i64 0, .int .i64 0] #[.int .i64 0, .int .i64 0] ?_ ?_ hz4 (pair_size _ _) (pair_size _ _) (pair_one _ _) w.heap.size (by omega) ?_); exact rfl; exact rfl; intro w5 hg5 hb5 _ _)
      exact bodyPost_ret (results_blk blkPair rfl _ _ (w.heap.size + 1 + 1) _ (.bool false) rfl rfl hg5 rfl) rfl ⟨ret_fn e.out, hB4.trans hb5⟩
end Go.Proofs.Ythkohenobbhhmaa

namespace Go.Proofs.Ythkohenobbhhmaa
open Go.RowKit
set_option maxRecDepth 4000
/-- Whether a cell is another one and has both points. -/
def beyB (n : Nat) (fr x y : Int) (q : Nat) : Bool := ((q : Int) != fr) && withB (ci n) x y q
def beyI (o : Option Nat) : Int := match o with | some q => q | none => -1
theorem range_at (m k : Nat) (h : k < m) : (List.range m).getD k 0 = k := by simp [List.getD, h]
theorem ret_bey {o : Option Nat} {x : Int} (h : beyI o = x) : Ending.returned (.int .i64 x) = .returned (.int .i64 (beyI o)) := by rw [h]
set_option maxHeartbeats 1600000 in
theorem beyond_any (n : Nat) (xs : List Int) (base : Nat) (r : Array Value) (x y fr : Int) (w : World) (hL : labB n xs = true) (hrv : RoomsV w base n xs r) :
    Calls Try.prog 82 #[.agg r, .agg #[.int .i64 x, .int .i64 y], .int .i64 fr] w fun e w' => e = .returned (.int .i64 (beyI ((List.range (ci n).length).find? (beyB n fr x y)))) ∧ Below w.heap.size w w' := by
  obtain ⟨h1, h2, -⟩ := labB_yes hL
  obtain ⟨hsz, hone, -, -, g, ca, cc, r46, -, hc3, -⟩ := rooms_row hL hrv
  have hb0 := balloc (balloc (Below.refl w.heap.size w) (.cells r 52)) (.cells #[.int .i64 x, .int .i64 y] 54)
  have hg1 : ((w.alloc (.cells r 52)).alloc (.cells #[.int .i64 x, .int .i64 y] 54)).heap[w.heap.size]? = some (.cells r 52 (0, 0)) := by
    rw [Below.heap_alloc _ _ _ (by simp)]
    exact heap_alloc_new w _
  have p0 : ((w.alloc (.cells r 52)).alloc (.cells #[.int .i64 x, .int .i64 y] 54)).cell? ⟨w.heap.size + 1, 0, none⟩ = some (.int .i64 x) := by go_cell
  have p1 : ((w.alloc (.cells r 52)).alloc (.cells #[.int .i64 x, .int .i64 y] 54)).cell? ⟨w.heap.size + 1, 1, none⟩ = some (.int .i64 y) := by go_cell
  have hsz3 : ((w.alloc (.cells r 52)).alloc (.cells #[.int .i64 x, .int .i64 y] 54)).heap.size = w.heap.size + 2 := by simp
  have q46 := blk_cell hg1 46 _ r46
  have hc3 := trio_now hc3 hb0
  obtain ⟨hfl, a, cap, b, hv, hrd⟩ := trio_shape hc3
  obtain ⟨rfl, rfl⟩ : ca = a ∧ cc = cap := by simpa using hv
  have HA := Lib.hid (ci_at n (by omega))
  have hbd := ci_bd n h2
  have HF := Lib.hid hfl
  have HC := Lib.hid hc3
  have HRD := Lib.hid hrd
  have HFS := Lib.hid (fun k hk h => find_step 0 (List.range (ci n).length) (beyB n fr x y) k hk h)
  have HRL : Hid ((List.range (ci n).length).length = (ci n).length) := Lib.hid (by simp)
  have HRA := Lib.hid (range_at (ci n).length)
  clear hL hrv hfl hc3 hrd hv r46 hg1
  go_enter Try.func82, Try.ntmps82
  go_wp2_with fail
  generalize ((w.alloc (.cells r 52)).alloc (.cells #[.int .i64 x, .int .i64 y] 54)) = w3 at hb0 p0 p1 q46 HC HRD hsz3 ⊢
  go_loopw [12] (fun v12 wr => ∃ k : Nat, k ≤ (ci n).length ∧ v12 = .int .i64 k ∧ Hid (((List.range (ci n).length).take k).find? (beyB n fr x y) = none) ∧ Below w3.heap.size w3 wr) (fun v12 _ => (ci n).length - (intOf v12).toNat)
  case atStart => exact ⟨0, Nat.zero_le _, rfl, Lib.hid (by simp), Below.refl _ _⟩
  case round =>
    obtain ⟨k, hk, rfl, hf, hb⟩ := hrel
    obtain ⟨wi, rfl⟩ : ∃ wi : World, wi = wr := ⟨_, rfl⟩
    by_cases hlt : k < (ci n).length
    · obtain ⟨rfl, c0⟩ := HRD.out (k * 3) (by have := HF.out; omega)
      have c1 := (HRD.out (k * 3 + 1) (by have := HF.out; omega)).2
      have c2 := (HRD.out (k * 3 + 2) (by have := HF.out; omega)).2
      have hbl : b < w3.heap.size := own_lt HC.out b rfl
      have d0 := (hb.cell (p := ⟨b, k * 3, none⟩) hbl).trans c0
      have d1 := (hb.cell (p := ⟨b, k * 3 + 1, none⟩) hbl).trans c1
      have d2 := (hb.cell (p := ⟨b, k * 3 + 2, none⟩) hbl).trans c2
      have q0 := (hb.cell (p := ⟨w.heap.size + 1, 0, none⟩) (by show w.heap.size + 1 < _; omega)).trans p0
      have q1 := (hb.cell (p := ⟨w.heap.size + 1, 1, none⟩) (by show w.heap.size + 1 < _; omega)).trans p1
      clear c0 c1 c2
      have hE := HA.out k hlt
      have HW : Hid (beyB n fr x y k = (((k : Int) != fr) && (hasB ((ci n).getD k []) x && hasB ((ci n).getD k []) y))) := Lib.hid rfl
      rw [hE] at HW
      clear hE
      have HS := HFS.out k (by rw [HRL.out]; exact hlt) hf.out
      rw [HRA.out k hlt] at HS
      have HS := Lib.hid HS
      have hwb := hb.size
      have hki : (k : Int) < ((ci n).length : Int) := by omega
      generalize (ci n).flatten.getD (k * 3) 0 = x0 at d0 HW
      generalize (ci n).flatten.getD (k * 3 + 1) 0 = y0 at d1 HW
      generalize (ci n).flatten.getD (k * 3 + 2) 0 = z0 at d2 HW
      have r0 : (wi.alloc (.cells #[.int .i64 x0, .int .i64 y0, .int .i64 z0] 106)).cell? ⟨w.heap.size + 1, 0, none⟩ = some (.int .i64 x) := (World.cell?_alloc_past _ _ _ (by show w.heap.size + 1 < _; omega)).trans q0
      have HB := Lib.hid (hb.alloc hwb (.cells #[.int .i64 x0, .int .i64 y0, .int .i64 z0] 106))
      cases hkf : ((k : Int) != fr)
      · have e := Lib.hid (HS.out.2 (by rw [HW.out, hkf]; rfl))
        go_wp2_with fail
        go_roundw
        case rel => exact ⟨k + 1, by omega, by go_num, e, HB.out⟩
        case measure => simp [intOf]; omega
      · have HKF := Lib.hid hkf
        go_wp2_with fail
        refine (trioHas_any x0 y0 z0 x _).mono ?_
        rintro e w4 ⟨rfl, hb4⟩
        have t0 : w4.cell? ⟨wi.heap.size, 0, none⟩ = some (.int .i64 x0) := by rw [hb4.cell (by simp)]; go_cell
        have t1 : w4.cell? ⟨wi.heap.size, 1, none⟩ = some (.int .i64 y0) := by rw [hb4.cell (by simp)]; go_cell
        have t2 : w4.cell? ⟨wi.heap.size, 2, none⟩ = some (.int .i64 z0) := by rw [hb4.cell (by simp)]; go_cell
        have hB4 := HB.out.trans (hb4.mono (by simp; omega))
        have s1 := (hB4.cell (p := ⟨w.heap.size + 1, 1, none⟩) (by show w.heap.size + 1 < _; omega)).trans p1
        clear hb hb4 d0 d1 d2 r0 q0 q1 hkf
        cases h1 : hasB [x0, y0, z0] x
        · have e := Lib.hid (HS.out.2 (by rw [HW.out, h1]; simp))
          clear h1
          go_wp2_with fail
          go_roundw
          case rel => exact ⟨k + 1, by omega, by go_num, e, hB4⟩
          case measure => simp [intOf]; omega
        · have H1 := Lib.hid h1
          clear h1
          go_wp2_with fail
          refine (trioHas_any x0 y0 z0 y _).mono ?_
          rintro e w5 ⟨rfl, hb5⟩
          have hB5 := bnext hB4 hb5
          clear hB4 hb5 t0 t1 t2 s1
          cases h2 : hasB [x0, y0, z0] y
          · have e := Lib.hid (HS.out.2 (by rw [HW.out, H1.out, h2]; simp))
            clear h2
            go_wp2_with fail
            go_roundw
            case rel => exact ⟨k + 1, by omega, by go_num, e, hB5⟩
            case measure => simp [intOf]; omega
          · have e := Lib.hid (HS.out.1 (by rw [HW.out, H1.out, h2, HKF.out]; rfl))
            clear h2
            go_wp2_with fail
            go_ret
            exact ⟨ret_bey (by rw [e.out]; rfl), bnext hb0 hB5⟩
    · have e : Hid ((List.range (ci n).length).find? (beyB n fr x y) = none) := by
        have := hf.out
        rwa [show k = (List.range (ci n).length).length by rw [HRL.out]; omega, List.take_length] at this
      go_wp2_with fail
      go_ret
      exact ⟨ret_bey (by rw [e.out]; rfl), bnext hb0 hb⟩
set_option maxHeartbeats 1600000 in
theorem otherDoor_any (n : Nat) (xs : List Int) (base : Nat) (r : Array Value) (k0 : Nat) (x y : Int) (w : World) (hL : labB n xs = true) (hrv : RoomsV w base n xs r) (hk0 : k0 < (ci n).length) :
    Calls Try.prog 83 #[.agg r, .int .i64 k0, .agg #[.int .i64 x, .int .i64 y]] w fun e w' => e = .returned (fp ((dcell xs n k0).find? (fun d => !sameB d (x, y)))) ∧ Below w.heap.size w w' := by
  obtain ⟨hsz, hone, -⟩ := rooms_row hL hrv
  have hb0 := balloc (balloc (balloc (Below.refl w.heap.size w) (.cells r 52)) (.cells #[.int .i64 x, .int .i64 y] 54)) (.cells #[.int .i64 0, .int .i64 0] 54)
  have hg1 : ((((w.alloc (.cells r 52)).alloc (.cells #[.int .i64 x, .int .i64 y] 54)).alloc (.cells #[.int .i64 0, .int .i64 0] 54))).heap[w.heap.size]? = some (.cells r 52 (0, 0)) := by
    rw [Below.heap_alloc _ _ _ (by simp; omega), Below.heap_alloc _ _ _ (by simp)]
    exact heap_alloc_new w _
  have p0 : ((((w.alloc (.cells r 52)).alloc (.cells #[.int .i64 x, .int .i64 y] 54)).alloc (.cells #[.int .i64 0, .int .i64 0] 54))).cell? ⟨w.heap.size + 1, 0, none⟩ = some (.int .i64 x) := by go_cell
  have p1 : ((((w.alloc (.cells r 52)).alloc (.cells #[.int .i64 x, .int .i64 y] 54)).alloc (.cells #[.int .i64 0, .int .i64 0] 54))).cell? ⟨w.heap.size + 1, 1, none⟩ = some (.int .i64 y) := by go_cell
  have hz1 : ((((w.alloc (.cells r 52)).alloc (.cells #[.int .i64 x, .int .i64 y] 54)).alloc (.cells #[.int .i64 0, .int .i64 0] 54))).heap[w.heap.size + 1 + 1]? = some (.cells #[.int .i64 0, .int .i64 0] 54 (0, 0)) := by
    have e := heap_alloc_new ((w.alloc (.cells r 52)).alloc (.cells #[.int .i64 x, .int .i64 y] 54)) (.cells #[.int .i64 0, .int .i64 0] 54)
    rwa [World.size_alloc, World.size_alloc] at e
  have hsz3 : ((((w.alloc (.cells r 52)).alloc (.cells #[.int .i64 x, .int .i64 y] 54)).alloc (.cells #[.int .i64 0, .int .i64 0] 54))).heap.size = w.heap.size + 3 := by simp
  have HD := Lib.hid (fun w' hb => doorsOf_any n xs base r k0 w' hL (rooms_now hrv (bnext hb0 hb)) hk0)
  have HF := Lib.hid (fun k hk h => find_step (0, 0) (dcell xs n k0) (fun d => !sameB d (x, y)) k hk h)
  have hbl : (dcell xs n k0).length ≤ 3 := Nat.le_trans (List.length_filter_le _ _) (by simp [cpairs])
  have HBD : Hid ((cpairs n k0).filter (drB xs) = dcell xs n k0) := Lib.hid rfl
  clear hL hrv hk0
  generalize dcell xs n k0 = ps at HF hbl HBD ⊢
  go_enter Try.func83, Try.ntmps83
  go_wp2_with ((with_reducible refine load_rm_g ?_ _ rfl w.heap.size ?_ r hg1 hsz ?_); exact rfl; exact rfl; simp only [Act.put, List.setIfInBounds_toArray, List.set_cons_zero, List.set_cons_succ])
  generalize ((((w.alloc (.cells r 52)).alloc (.cells #[.int .i64 x, .int .i64 y] 54)).alloc (.cells #[.int .i64 0, .int .i64 0] 54))) = w1 at hb0 hg1 p0 p1 hz1 HD hsz3 ⊢
  refine (HD.out w1 (Below.refl _ _)).mono ?_
  rintro e w2 ⟨v, rfl, hp, hb2⟩
  rw [HBD.out] at hp
  obtain ⟨a, cap, b, rfl, hrd⟩ := pair_shape hp
  have HR := Lib.hid hrd
  have p0' := (hb2.cell (p := ⟨w.heap.size + 1, 0, none⟩) (by show w.heap.size + 1 < _; omega)).trans p0
  have p1' := (hb2.cell (p := ⟨w.heap.size + 1, 1, none⟩) (by show w.heap.size + 1 < _; omega)).trans p1
  have hz2' := (hb2.block (w.heap.size + 1 + 1) (by omega)).trans hz1
  have hz2 := hb2.size
  have hB2 := bnext hb0 hb2
  clear p0 p1 hz1 hp hrd hg1 hb2 hb0 HD HBD
  go_wp2_with fail
  go_loopw [14] (fun v14 wr => ∃ k : Nat, k ≤ ps.length ∧ v14 = .int .i64 k ∧ Hid ((ps.take k).find? (fun d => !sameB d (x, y)) = none) ∧ Below w2.heap.size w2 wr) (fun v14 _ => ps.length - (intOf v14).toNat)
  case atStart => exact ⟨0, Nat.zero_le _, rfl, Lib.hid (by simp), Below.refl _ _⟩
  case round =>
    obtain ⟨k, hk, rfl, hf, hb⟩ := hrel
    have q0 := (hb.cell (p := ⟨w.heap.size + 1, 0, none⟩) (by show w.heap.size + 1 < _; omega)).trans p0'
    have q1 := (hb.cell (p := ⟨w.heap.size + 1, 1, none⟩) (by show w.heap.size + 1 < _; omega)).trans p1'
    have hz := hb.size
    by_cases hlt : k < ps.length
    · obtain ⟨rfl, hbl', c0, c1⟩ := (HR.out.later hb) k hlt
      have HS := Lib.hid (HF.out k hlt hf.out)
      have hki : (k : Int) < (ps.length : Int) := by omega
      generalize ps.getD k (0, 0) = p at c0 c1 HS
      obtain ⟨p, q⟩ := p
      simp only at c0 c1
      obtain ⟨wi, hwi⟩ : ∃ wi : World, wi = wr := ⟨_, rfl⟩
      subst hwi
      have r0 : (wi.alloc (.cells #[.int .i64 p, .int .i64 q] 54)).cell? ⟨w.heap.size + 1, 0, none⟩ = some (.int .i64 x) := (World.cell?_alloc_past _ _ _ (by show w.heap.size + 1 < _; omega)).trans q0
      have r1 : (wi.alloc (.cells #[.int .i64 p, .int .i64 q] 54)).cell? ⟨w.heap.size + 1, 1, none⟩ = some (.int .i64 y) := (World.cell?_alloc_past _ _ _ (by show w.heap.size + 1 < _; omega)).trans q1
      have hb' := hb.alloc hz (.cells #[.int .i64 p, .int .i64 q] 54)
      clear q0 q1 hb
      go_wp2_with fail
      refine (isSame_any p q x y _).mono ?_
      rintro e w3 ⟨rfl, hb3⟩
      have hb4 := hb'.trans (hb3.mono (by simp; omega))
      have t0 : w3.cell? ⟨wi.heap.size, 0, none⟩ = some (.int .i64 p) := by rw [hb3.cell (by simp)]; go_cell
      have t1 : w3.cell? ⟨wi.heap.size, 1, none⟩ = some (.int .i64 q) := by rw [hb3.cell (by simp)]; go_cell
      have hz4 := (hb4.block (w.heap.size + 1 + 1) (by omega)).trans hz2'
      have hB4 := bnext hB2 hb4
      clear hb' hb3 r0 r1 c0 c1
      cases hs : sameB (p, q) (x, y)
      · have e := Lib.hid (HS.out.1 (by simp only [hs]; rfl))
        clear hs
        go_wp2_with ((with_reducible refine store_blk blkPair rfl _ _ rfl (w.heap.size + 1 + 1) #[.int .i64 p, .int .i64 q] #[.int .i64 0, .int .i64 0] ?_ ?_ hz4 (pair_size _ _) (pair_size _ _) (pair_one _ _) w.heap.size (by omega) ?_); exact rfl; exact rfl; intro w5 hg5 hb5 _ _)
        exact bodyPost_ret (results_blk blkPair rfl _ _ (w.heap.size + 1 + 1) _ (.bool true) rfl rfl hg5 rfl) rfl ⟨ret_fp e.out, hB4.trans hb5⟩
      · have e := Lib.hid (HS.out.2 (by simp only [hs]; rfl))
        clear hs
        go_wp2_with fail
        go_roundw
        case rel => exact ⟨k + 1, by omega, by go_num, e, hb4⟩
        case measure => simp [intOf]; omega
    · have e : Hid (ps.find? (fun d => !sameB d (x, y)) = none) := by
        have := hf.out
        rwa [show k = ps.length by omega, List.take_length] at this
      have hz4 := (hb.block (w.heap.size + 1 + 1) (by omega)).trans hz2'
      have hB4 := bnext hB2 hb
      go_wp2_with ((with_reducible refine store_blk blkPair rfl _ _ rfl (w.heap.size + 1 + 1) #[.int .i64 0, .int .i64 0] #[.int .i64 0, .int .i64 0] ?_ ?_ hz4 (pair_size _ _) (pair_size _ _) (pair_one _ _) w.heap.size (by omega) ?_); exact rfl; exact rfl; intro w5 hg5 hb5 _ _)
      exact bodyPost_ret (results_blk blkPair rfl _ _ (w.heap.size + 1 + 1) _ (.bool false) rfl rfl hg5 rfl) rfl ⟨ret_fn e.out, hB4.trans hb5⟩
end Go.Proofs.Ythkohenobbhhmaa

namespace Go.Proofs.Ythkohenobbhhmaa
open Go.RowKit
set_option maxRecDepth 4000
theorem find_congr {α : Type} {f g : α → Bool} : ∀ (l : List α), (∀ x ∈ l, f x = g x) → l.find? f = l.find? g
  | [], _ => rfl
  | x :: l, h => by
    rw [List.find?_cons, List.find?_cons, h x (by simp), find_congr l (fun y hy => h y (by simp [hy]))]
theorem bey_eq {n : Nat} (h2 : n ≤ 8) (fr x y : Int) (h : x ≠ y) : (List.range (ci n).length).find? (beyB n fr x y) = acrossI n fr (inner (x, y)) := by
  rw [acrossI, bothN, List.find?_filter]
  refine find_congr _ fun q hq => ?_
  have hq' : q < (ci n).length := by simpa using hq
  rw [beyB, with_pairs h2 hq' (x, y) h, Bool.and_comm, Bool.eq_iff_iff]
  simp
theorem oth_eq {n k : Nat} (xs : List Int) (h2 : n ≤ 8) (hk : k < (ci n).length) (p : Int × Int) : (dcell xs n k).find? (fun q => !sameB q p) = otherD xs n k (inner p) := by
  refine find_congr _ fun q hq => ?_
  have hs := cpairs_sorted h2 hk (mem_dcell.1 hq).1
  rw [same_inner, inner_sorted hs]
  simp only [ne_eq, decide_not]
/-- Where the walk from a room and a door stands: ahead of a room, or outside. -/
def At (xs : List Int) (n : Nat) (s0 : Nat × (Int × Int)) (L : List Nat) (R : (Int × Int) × Bool) (out : List Nat) (room : Int) (p : Int × Int) : Prop :=
  (∃ k : Nat, room = k ∧ Starts xs n s0 ∧ stW xs n s0 out.length = some (k, inner p) ∧ out ++ (wlk xs n ((ci n).length - out.length) (k, inner p)).1 = L ∧ (wlk xs n ((ci n).length - out.length) (k, inner p)).2 = R) ∨
  (room = -1 ∧ out = L ∧ R = (inner p, false))
theorem at_start (xs : List Int) (n : Nat) (s0 : Nat × (Int × Int)) (p : Int × Int) (hs : Starts xs n s0) (h : s0.2 = inner p) : At xs n s0 (wlk xs n (ci n).length s0).1 (wlk xs n (ci n).length s0).2 [] s0.1 p := by
  obtain ⟨k, d⟩ := s0
  simp only at h
  subst h
  exact .inl ⟨k, rfl, hs, rfl, rfl, rfl⟩
/-- One room further. -/
theorem at_room {xs : List Int} {n : Nat} {s0 : Nat × (Int × Int)} {L : List Nat} {R : (Int × Int) × Bool} {out : List Nat} {room : Int} {p : Int × Int} (hL : labB n xs = true) (h : At xs n s0 L R out room p) (hr : room ≠ -1) :
    ∃ k : Nat, room = k ∧ k < (ci n).length ∧ out.length < (ci n).length ∧ inner p ∈ dcell xs n k ∧ fullB xs n k = (otherD xs n k (inner p)).isNone ∧
      (otherD xs n k (inner p) = none → out ++ [k] = L ∧ R = (inner p, true)) ∧
      ∀ d, otherD xs n k (inner p) = some d → d.1 < d.2 ∧ inner d = d ∧ At xs n s0 L R (out ++ [k]) (beyI (acrossI n k d)) d := by
  obtain ⟨h1, h2, -⟩ := labB_yes hL
  rcases h with ⟨k, rfl, hs, hst, e1, e2⟩ | ⟨rfl, -, -⟩
  · have hlt := st_lt hs.2.2 hst
    have hinv := st_inv hs _ _ hst
    simp only at hinv
    refine ⟨k, rfl, hinv.1, hlt, hinv.2, (other_full hL hinv.1 hinv.2).symm, fun ho => ?_, fun d ho => ?_⟩
    · obtain ⟨f, hf⟩ : ∃ f, (ci n).length - out.length = f + 1 := ⟨(ci n).length - out.length - 1, by omega⟩
      rw [hf, wlk] at e1 e2
      simp only [ho] at e1 e2
      exact ⟨e1, e2.symm⟩
    · have hd := otherD_some ho
      have hsd := cpairs_sorted h2 hinv.1 (mem_dcell.1 hd.1).1
      refine ⟨hsd, inner_sorted hsd, ?_⟩
      obtain ⟨f, hf⟩ : ∃ f, (ci n).length - out.length = f + 1 := ⟨(ci n).length - out.length - 1, by omega⟩
      rw [hf, wlk] at e1 e2
      simp only [ho] at e1 e2
      rw [acrossI_nat]
      cases ha : acrossD n k d with
      | none =>
        rw [ha] at e1 e2
        simp only at e1 e2
        exact .inr ⟨rfl, e1, by rw [inner_sorted hsd]; exact e2.symm⟩
      | some q =>
        rw [ha] at e1 e2
        simp only at e1 e2
        refine .inl ⟨q, rfl, hs, ?_, ?_, ?_⟩
        · rw [List.length_append, inner_sorted hsd]
          exact st_step hst ho ha
        · rw [List.length_append, inner_sorted hsd, show (ci n).length - (out.length + [k].length) = f by simp; omega, List.append_assoc]
          exact e1
        · rw [List.length_append, inner_sorted hsd, show (ci n).length - (out.length + [k].length) = f by simp; omega]
          exact e2
  · exact absurd rfl hr
/-- A walk may begin at a door, from a room or from outside. -/
def Goes (xs : List Int) (n : Nat) (fr : Int) (p : Int × Int) : Prop := p.1 ≠ p.2 ∧ ∀ k, acrossI n fr (inner p) = some k → Starts xs n (k, inner p)
theorem goes_at {xs : List Int} {n : Nat} {fr : Int} {p : Int × Int} (h : Goes xs n fr p) : ∃ s0 L R, wfrom xs n fr p = (L, R) ∧ At xs n s0 L R [] (beyI (acrossI n fr (inner p))) p := by
  cases ha : acrossI n fr (inner p) with
  | none => exact ⟨(0, inner p), [], (inner p, false), by simp [wfrom, ha], .inr ⟨rfl, rfl, rfl⟩⟩
  | some k => exact ⟨(k, inner p), _, _, by simp only [wfrom, ha], at_start xs n (k, inner p) p (h.2 k ha) rfl⟩
end Go.Proofs.Ythkohenobbhhmaa
