import Derived.Test.YtgpikaolgalpbaaGg
import Derived.Test.YtgpikaolgalpbaaYv
import Derived.Test.YtgpikaolgalpbaaMv
namespace Go.Proofs.Ytgpikaolgalpbaa
open Go.RowKit
set_option maxRecDepth 4000
/-- The cells of a square. -/
def sqC (n : Nat) : List (List Int) := sci n (sqn n)
/-- The opposite edges of a cell. -/
def oppAt (xs : List Int) (n k : Nat) : List (Int × Int) := (cpr (sqC n) k).filter (sumB xs 0)
theorem sqC_tri {n : Nat} (h2 : n ≤ 4) : Tri (sqC n) (sqn n) := tri_of (sq_tri n (by omega))
theorem sq_rooms {n : Nat} {xs : List Int} (hL : sqB n xs = true) {k : Nat} (hk : k < (sqC n).length) :
    gd (cpr (sqC n)) (sumB xs 3) k = [] ∨ (∃ p, gd (cpr (sqC n)) (sumB xs 3) k = [p] ∧ oppAt xs n k ≠ []) ∨ ∃ p q, gd (cpr (sqC n)) (sumB xs 3) k = [p, q] ∧ p ≠ q ∧ oppAt xs n k = [] := by
  obtain ⟨n', hnn, h1, h2, hl, hA⟩ := sqB_nat hL
  obtain rfl : n = n' := by omega
  obtain ⟨a, b, c, e, u1, u2, u3⟩ := sqC_tri h2 k hk
  rw [gd, oppAt, cpr_of e]
  exact sq_cases _ _ _ (four4 (all4_at hA a (by omega))) (four4 (all4_at hA b (by omega))) (four4 (all4_at hA c (by omega))) a b c (by omega) (by omega) (sumB xs 3) (sumB xs 0) rfl rfl rfl rfl rfl rfl
theorem sq_fgr {n : Nat} {xs : List Int} (hL : sqB n xs = true) : Fgr 88 (sumB xs 3) (sqC n) (sqPs n) (sqn n) := by
  obtain ⟨n', hnn, h1, h2, hl, hA⟩ := sqB_nat hL
  obtain rfl : n = n' := by omega
  refine ⟨isDoor_cf, sqC_tri h2, ⟨cpr_sorted (sqC_tri h2), two_of (sq_two n (by omega)), fun k hk => ?_⟩, ?_, ?_⟩
  · rcases sq_rooms hL hk with h | ⟨p, h, -⟩ | ⟨p, q, h, hpq, -⟩
    · exact .inl h
    · exact .inr (.inl ⟨p, h⟩)
    · exact .inr (.inr ⟨p, q, h, hpq⟩)
  · have := sci_len n (sqn n)
    have := sqn_le n h2
    unfold sqC; omega
  · rw [sqPs_len]; omega
theorem cpr_pts {n m : Nat} (h2 : n ≤ 4) (hm : sqn n = m) {k : Nat} (hk : k < (sqC n).length) : PtsB m (cpr (sqC n) k) := by
  obtain ⟨a, b, c, e, u1, u2, u3⟩ := sqC_tri h2 k hk
  rw [cpr_of e]
  intro t ht
  match t, ht with
  | 0, _ => exact ⟨a, b, rfl, by omega, by omega⟩
  | 1, _ => exact ⟨a, c, rfl, by omega, by omega⟩
  | 2, _ => exact ⟨b, c, rfl, by omega, by omega⟩
  | t + 3, ht => exact absurd ht (by simp)
theorem sq_rmw {n : Nat} {xs : List Int} {a : Option Addr} {b len cap base : Nat} {r : Array Value} {w : World} (hn : xs.length = len) (h : Rd w a b 0 xs) (hb0 : len = 0 ∨ b < w.heap.size) (hL : sqB n xs = true) (hv : RmsV w base (sqC n) (sqPs n) (doorV n a len cap) r) :
    RmW 88 #[.agg (lqA n a len cap)] #[] (sumB xs 3) (sqC n) (sqPs n) base r w := by
  obtain ⟨n', hnn, h1, h2, hl, hA⟩ := sqB_nat hL
  obtain rfl : n = n' := by omega
  refine ⟨hv, fun k hk => door_asks n xs a b len cap w hn h hb0 hA _ (cpr_pts h2 (by omega) hk), door_asks n xs a b len cap w hn h hb0 hA _ (fun k hk => ?_)⟩
  obtain ⟨i, j, e, hi, hj⟩ := sqPs_pts n h2 k hk
  exact ⟨i, j, e, by omega, by omega⟩
/-- A walk may begin at a door of the border. -/
theorem sq_goes {n : Nat} {xs : List Int} (hL : sqB n xs = true) {p : Int × Int} (hp : p ∈ (sqPs n).filter (sumB xs 3)) :
    gGoes (sqC n).length (cpr (sqC n)) (sumB xs 3) (-1) p ∧ ∃ k, gAcr (sqC n).length (cpr (sqC n)) (-1) (inner p) = some k := by
  obtain ⟨n', hnn, h1, h2, -, -⟩ := sqB_nat hL
  obtain rfl : n = n' := by omega
  rw [List.mem_filter] at hp
  obtain ⟨o1, o2⟩ := one_of (sq_one n (by omega)) p hp.1
  have o1 : (gBoth (sqC n).length (cpr (sqC n)) (inner p)).length = 1 := o1
  obtain ⟨k0, hk0⟩ := List.length_eq_one_iff.1 o1
  have hd : sumB xs 3 (inner p) = true := by rw [sumB_inner]; exact hp.2
  refine ⟨⟨o2, fun k hk => ?_⟩, k0, ?_⟩
  · obtain ⟨a1, a2, -⟩ := gAcr_some hk
    have hg : inner p ∈ gd (cpr (sqC n)) (sumB xs 3) k := mem_gd.2 ⟨a2, hd⟩
    have hin : ∀ q, q < (sqC n).length → inner p ∈ cpr (sqC n) q → q = k0 := fun q h1 h2 => by
      have : q ∈ gBoth (sqC n).length (cpr (sqC n)) (inner p) := by simp [gBoth, h1, h2]
      rw [hk0] at this
      simpa using this
    refine ⟨a1, hg, gWalk_ends (sq_fgr hL).fig k (inner p) a1 hg (fun q hq hq2 => ?_)⟩
    rw [hin q hq (mem_gd.1 hq2).1, hin k a1 a2]
  · rw [gAcr, hk0]
    simp
/-- The last room of a walk. -/
def lastG (L : List Nat) : Nat := L.getLast?.getD 0
theorem lastG_app (pre : List Nat) (l : Nat) : lastG (pre ++ [l]) = l := by simp [lastG]
theorem gFrom_last {M : Nat} {cp : Nat → List (Int × Int)} {d : Int × Int → Bool} {fr : Int} {p : Int × Int} (hgo : gGoes M cp d fr p) {k : Nat} (ha : gAcr M cp fr (inner p) = some k) :
    ∃ pre l q, (gFrom M cp d fr p).1 = pre ++ [l] ∧ l < M ∧ q ∈ gd cp d l ∧ (gOth cp d l q).isNone = (gFrom M cp d fr p).2.2 := by
  obtain ⟨s1, s2, s3⟩ := hgo.2 k ha
  simp only at s1 s2
  obtain ⟨f, hf⟩ : ∃ f, M = f + 1 := ⟨M - 1, by omega⟩
  obtain ⟨pre, l, q, e1, e2, e3, e4⟩ := gWlk_last f (k, inner p) s1 s2
  rw [← hf] at e1 e4
  refine ⟨pre, l, q, ?_, e2, e3, ?_⟩
  · simp only [gFrom, ha]; exact e1
  · simp only [gFrom, ha]; exact e4 s3
/-- The opposite edge behind a walk. -/
def edgeP (xs : List Int) (n : Nat) (W : List Nat × (Int × Int) × Bool) : Option (Int × Int) := if W.2.2 then (oppAt xs n (lastG W.1)).head? else none
/-- A walk's last cell has an opposite edge exactly if the walk ends inside. -/
theorem sq_edge {n : Nat} {xs : List Int} (hL : sqB n xs = true) {p : Int × Int} (hp : p ∈ (sqPs n).filter (sumB xs 3)) :
    ∃ pre l, (gFrom (sqC n).length (cpr (sqC n)) (sumB xs 3) (-1) p).1 = pre ++ [l] ∧ l < (sqC n).length ∧ ((gFrom (sqC n).length (cpr (sqC n)) (sumB xs 3) (-1) p).2.2 = true → ∃ e rest, oppAt xs n l = e :: rest) := by
  obtain ⟨hgo, k, hk⟩ := sq_goes hL hp
  obtain ⟨pre, l, q, e1, e2, e3, e4⟩ := gFrom_last hgo hk
  refine ⟨pre, l, e1, e2, fun hf => ?_⟩
  rw [hf] at e4
  rcases sq_rooms hL e2 with h | ⟨p', h, ho⟩ | ⟨p', q', h, hpq, -⟩
  · rw [h] at e3; simp at e3
  · cases e : oppAt xs n l with
    | nil => exact absurd e ho
    | cons a l => exact ⟨a, l, rfl⟩
  · exfalso
    rw [h] at e3
    simp only [List.mem_cons, List.not_mem_nil, or_false] at e3
    rw [gOth, h] at e4
    rcases e3 with rfl | rfl
    · simp at e4; exact hpq e4.symm
    · simp at e4; exact hpq e4
end Go.Proofs.Ytgpikaolgalpbaa
