import Derived.Test.YtelchpdlfedleaaZi
import Derived.Test.YtelchpdlfedleaaGk
namespace Go.Proofs.Ytelchpdlfedleaa
open Go.RowKit
set_option maxRecDepth 4000
/-- The triangle's figure in the words of any figure. -/
theorem cpr_ci {n k : Nat} (h2 : n ≤ 8) (hk : k < (ci n).length) : cpr (ci n) k = cpairs n k := by
  obtain ⟨-, hall⟩ := ci_cq n (by omega)
  exact cpr_of (hall k hk).1
theorem gd_ci {n k : Nat} (xs : List Int) (h2 : n ≤ 8) (hk : k < (ci n).length) : gd (cpr (ci n)) (drB xs) k = dcell xs n k := by rw [gd, dcell, cpr_ci h2 hk]
theorem both_ci {n : Nat} (h2 : n ≤ 8) (p : Int × Int) : gBoth (ci n).length (cpr (ci n)) p = bothN n p := by
  rw [gBoth, bothN]
  exact List.filter_congr fun q hq => by rw [cpr_ci h2 (List.mem_range.1 hq)]
theorem acr_ci {n : Nat} (h2 : n ≤ 8) (fr : Int) (p : Int × Int) : gAcr (ci n).length (cpr (ci n)) fr p = acrossI n fr p := by rw [gAcr, acrossI, both_ci h2]
theorem oth_ci {n k : Nat} (xs : List Int) (h2 : n ≤ 8) (hk : k < (ci n).length) (p : Int × Int) : gOth (cpr (ci n)) (drB xs) k p = otherD xs n k p := by rw [gOth, otherD, gd_ci xs h2 hk]
theorem step_ci {n : Nat} (xs : List Int) (h2 : n ≤ 8) (s : Nat × (Int × Int)) (hs : s.1 < (ci n).length) : gStep (ci n).length (cpr (ci n)) (drB xs) s = stepW xs n s := by
  rw [gStep, stepW, oth_ci xs h2 hs]
  cases otherD xs n s.1 s.2 with
  | none => rfl
  | some e => simp only [acr_ci h2, acrossI_nat]
theorem st_ci {n : Nat} (xs : List Int) (h2 : n ≤ 8) (s : Nat × (Int × Int)) (hs : s.1 < (ci n).length) : ∀ i, gSt (ci n).length (cpr (ci n)) (drB xs) s i = stW xs n s i ∧ ∀ t, stW xs n s i = some t → t.1 < (ci n).length
  | 0 => ⟨rfl, fun t ht => by simp only [stW, Option.some.injEq] at ht; rw [← ht]; exact hs⟩
  | i + 1 => by
    obtain ⟨e1, e2⟩ := st_ci xs h2 s hs i
    rw [gSt, stW, e1]
    cases hu : stW xs n s i with
    | none => exact ⟨rfl, fun t ht => by cases ht⟩
    | some u =>
      have hu1 := e2 u hu
      refine ⟨by simp only [Option.bind_some]; exact step_ci xs h2 u hu1, fun t ht => ?_⟩
      simp only [Option.bind_some, stepW] at ht
      cases ho : otherD xs n u.1 u.2 with
      | none => rw [ho] at ht; dsimp only at ht; cases ht
      | some d =>
        rw [ho] at ht
        dsimp only at ht
        cases ha : acrossD n u.1 d with
        | none => rw [ha] at ht; cases ht
        | some k =>
          rw [ha] at ht
          simp only [Option.map_some, Option.some.injEq] at ht
          rw [← ht]
          exact (acrossD_some ha).1
theorem wlk_ci {n : Nat} (xs : List Int) (h2 : n ≤ 8) : ∀ f (s : Nat × (Int × Int)), s.1 < (ci n).length → gWlk (ci n).length (cpr (ci n)) (drB xs) f s = wlk xs n f s
  | 0, s, _ => rfl
  | f + 1, s, hs => by
    rw [gWlk, wlk, oth_ci xs h2 hs]
    cases otherD xs n s.1 s.2 with
    | none => rfl
    | some e =>
      simp only [acr_ci h2, acrossI_nat]
      cases ha : acrossD n s.1 e with
      | none => rfl
      | some k =>
        simp only
        rw [wlk_ci xs h2 f (k, e) (acrossD_some ha).1]
theorem acrossI_lt {n k : Nat} {fr : Int} {p : Int × Int} (h : acrossI n fr p = some k) : k < (ci n).length := (bothN_lt (List.mem_of_find?_eq_some h)).1
theorem from_ci {n : Nat} (xs : List Int) (h2 : n ≤ 8) (fr : Int) (p : Int × Int) : gFrom (ci n).length (cpr (ci n)) (drB xs) fr p = wfrom xs n fr p := by
  rw [gFrom, wfrom, acr_ci h2]
  cases h : acrossI n fr (inner p) with
  | none => rfl
  | some k => exact wlk_ci xs h2 _ (k, inner p) (acrossI_lt h)
theorem starts_ci {n : Nat} {xs : List Int} (h2 : n ≤ 8) {s : Nat × (Int × Int)} (h : Starts xs n s) : gStarts (ci n).length (cpr (ci n)) (drB xs) s :=
  ⟨h.1, by rw [gd_ci xs h2 h.1]; exact h.2.1, by rw [(st_ci xs h2 s h.1 _).1]; exact h.2.2⟩
theorem goes_ci {n : Nat} {xs : List Int} (h2 : n ≤ 8) {fr : Int} {p : Int × Int} (h : Goes xs n fr p) : gGoes (ci n).length (cpr (ci n)) (drB xs) fr p :=
  ⟨h.1, fun k hk => starts_ci h2 (h.2 k (by rwa [acr_ci h2] at hk))⟩
theorem tri_ci {n : Nat} (h2 : n ≤ 8) : Tri (ci n) (Pr.cnt n) := fun k hk => by
  obtain ⟨-, hall⟩ := ci_cq n (by omega)
  obtain ⟨e, -, -, -, -, -, h3⟩ := hall k hk
  obtain ⟨u1, u2⟩ := cq_up n (by omega) k hk
  exact ⟨cq n k 0, cq n k 1, cq n k 2, e, u1, u2, h3⟩
theorem fig_ci {n : Nat} {xs : List Int} (hL : labB n xs = true) : Fg (ci n).length (cpr (ci n)) (drB xs) := by
  obtain ⟨h1, h2, -⟩ := labB_yes hL
  refine ⟨cpr_sorted (tri_ci h2), fun k hk p hp => ?_, fun k hk => ?_⟩
  · have e := bothN_two n (by omega) k hk p (by rwa [cpr_ci h2 hk] at hp)
    rw [← both_ci h2] at e
    exact e
  · have e := gd_ci xs h2 hk
    rw [gd] at e
    rw [e]
    rcases dcell_cases n k xs hL hk with ⟨-, h⟩ | ⟨-, h⟩
    · exact .inr (.inl h)
    · rcases h with h | h
      · exact .inl h
      · exact .inr (.inr h)
/-- The steps of the border, as a list that comes round. -/
theorem als_bps (n : Nat) : als (bor n (3 * n)) (bor n (3 * n)).length = bps n (3 * n) := by
  rw [als, bor_len, bps]
  refine List.map_congr_left fun k hk => ?_
  have hk' : k < 3 * n := List.mem_range.1 hk
  rw [al, bp, bor_len, bor_at n _ _ hk', bor_at n _ _ (Nat.mod_lt _ (by omega))]
theorem ffG_ci {n : Nat} (xs : List Int) (h2 : n ≤ 8) (p : Int × Int) : ffG (ci n).length (cpr (ci n)) (drB xs) p = (wfrom xs n (-1) p).2.2 := by rw [ffG, from_ci xs h2]
/-- The model's next cell, in the triangle's words. -/
theorem doNextT_any (n : Nat) (x y fr : Int) (a a' : Option Addr) (base b' m cap cap' : Nat) (w : World) (h2 : n ≤ 8) (hc : CellsV w base (.slice a m cap) (ci n)) (hr : Rd w a' b' 0 [x, y]) (hb : b' < w.heap.size) (h : x ≠ y) :
    Calls Try.prog 124 #[.slice a m cap, .slice a' 2 cap', .int .i64 fr] w fun e w' => e = .returned (.int .i64 (beyI (acrossI n fr (inner (x, y))))) ∧ Below w.heap.size w w' := by
  have e := doNext_any (ci n) (Pr.cnt n) x y fr a a' base b' m cap cap' w (tri_ci h2) (ci_bd n h2) hc hr hb h
  rwa [acr_ci h2] at e
end Go.Proofs.Ytelchpdlfedleaa
