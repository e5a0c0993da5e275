import Derived.Test.YtelchpdlfedleaaZf
import Derived.Test.YtelchpdlfedleaaVa
namespace Go.Proofs.Ytelchpdlfedleaa
open Go.RowKit
set_option maxRecDepth 4000
theorem okW_yes {n i j : Int} {xs : List Int} (h : okW n xs i j = true) : ∃ n' : Nat, n = n' ∧ labB n' xs = true ∧ i ≠ j ∧ Goes xs n' (-1) (inner (i, j)) ∧ (∃ k, acrossI n' (-1) (inner (i, j)) = some k) ∧ ∃ d, d ∈ bds n' xs ∧ (bds n' xs).find? (fun d => sameB d (i, j)) = some d ∧ inner d = inner (i, j) ∧ Goes xs n' (-1) d := by
  simp only [okW, Bool.and_eq_true] at h
  obtain ⟨hL, hf⟩ := h
  obtain ⟨n, rfl⟩ := labB_nat hL
  obtain ⟨d, hd⟩ := Option.isSome_iff_exists.1 hf
  simp only [Int.toNat_natCast] at hd
  have hm := List.mem_of_find?_eq_some hd
  have hs := List.find?_some hd
  rw [same_inner, decide_eq_true_eq] at hs
  obtain ⟨hg, k, hk⟩ := goes_border hL hm
  have hlt := inner_lt hg.1
  have hij : i ≠ j := fun e => by
    rw [hs, e] at hlt
    simp only [inner] at hlt
    split at hlt <;> omega
  refine ⟨n, rfl, hL, hij, ⟨?_, fun k' hk' => ?_⟩, ⟨k, by rw [← hs]; exact hk⟩, d, hm, hd, hs, hg⟩
  · have := inner_lt (p := (i, j)) hij
    omega
  · rw [inner_inner (i, j) hij] at hk' ⊢
    rw [← hs] at hk' ⊢
    exact hg.2 k' hk'
/-- A walk that has a room has a last one, which is full exactly if the walk says so. -/
theorem wfrom_last {xs : List Int} {n : Nat} {fr : Int} {p : Int × Int} (hL : labB n xs = true) (hgo : Goes xs n fr p) {k : Nat} (ha : acrossI n fr (inner p) = some k) :
    ∃ pre l, (wfrom xs n fr p).1 = pre ++ [l] ∧ l < (ci n).length ∧ fullB xs n l = (wfrom xs n fr p).2.2 := by
  obtain ⟨h1, h2, h3⟩ := hgo.2 k ha
  obtain ⟨f, hf⟩ : ∃ f, (ci n).length = f + 1 := ⟨(ci n).length - 1, by omega⟩
  obtain ⟨pre, l, e1, e2, e3⟩ := wlk_last hL f (k, inner p) h1 h2
  simp only [wfrom, ha]
  rw [hf] at h3 ⊢
  refine ⟨pre, l, e1, by omega, e3 h3⟩
theorem wlk_len (xs : List Int) (n : Nat) : ∀ f s, (wlk xs n f s).1.length ≤ f
  | 0, s => by simp [wlk]
  | f + 1, s => by
    have ih := fun k d => wlk_len xs n f (k, d)
    cases ho : otherD xs n s.1 s.2 with
    | none => simp [wlk, ho]
    | some d =>
      cases ha : acrossD n s.1 d with
      | none => simp [wlk, ho, ha]
      | some k => simpa [wlk, ho, ha] using ih k d
theorem wfrom_len (xs : List Int) (n : Nat) (fr : Int) (p : Int × Int) : (wfrom xs n fr p).1.length ≤ (ci n).length := by
  unfold wfrom
  cases acrossI n fr (inner p) with
  | none => simp
  | some k => exact wlk_len _ _ _ _
theorem wfrom_inner (xs : List Int) (n : Nat) (fr : Int) {p q : Int × Int} (h : inner p = inner q) : wfrom xs n fr p = wfrom xs n fr q := by simp only [wfrom, h]
section
variable {P : Program} {ops : Array Oper} {S : World → Prop} {Q : Exit → Act → World → Prop}
end
def valWalk (n : Int) (xs : List Int) (i j : Int) : List Int := if okW n xs i j then ints (wfrom xs n.toNat (-1) (inner (i, j))).1 else []
def fullWalk (n : Int) (xs : List Int) (i j : Int) : Bool := okW n xs i j && (wfrom xs n.toNat (-1) (inner (i, j))).2.2
/-- What a function does that answers a list of numbers, a mark, and whether it succeeds. -/
def Gives3 (w : World) (xs : List Int) (f ok : Bool) (e : Ending) (w' : World) : Prop :=
  ∃ v, e = .returned (.tuple #[v, .bool f, .bool ok]) ∧ w'.ownsRow w.heap.size 3 1 v xs.length (xs.map (Value.int .i64)) ∧ Below w.heap.size w w'
theorem gives3_none {w w' : World} (hb : Below w.heap.size w w') : Gives3 w [] false false (.returned (.tuple #[.slice none 0 0, .bool false, .bool false])) w' :=
  ⟨_, rfl, World.ownsRow_nil _ _ _ _, hb⟩
theorem gives3_of {w w' : World} {L : List Int} {v : Value} {f g : Bool} (hf : f = g) (ho : w'.ownsRow w.heap.size 3 1 v L.length (L.map (Value.int .i64))) (hb : Below w.heap.size w w') : Gives3 w L f true (.returned (.tuple #[v, .bool g, .bool true])) w' := by
  subst hf
  exact ⟨v, rfl, ho, hb⟩
end Go.Proofs.Ytelchpdlfedleaa
