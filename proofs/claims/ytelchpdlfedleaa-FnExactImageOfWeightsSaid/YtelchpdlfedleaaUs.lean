import Derived.Test.YtelchpdlfedleaaUp
namespace Go.Proofs.Ytelchpdlfedleaa
open Go.RowKit
set_option maxRecDepth 4000
/-- The greater one, as the model takes it. -/
def mostI (a b : Int) : Int := if b < a then a else b
set_option maxHeartbeats 400000 in
theorem l1Most_any (a b : Int) (w : World) :
    Calls Try.prog 132 #[.int .i64 a, .int .i64 b] w fun e w' => e = .returned (.int .i64 (mostI a b)) ∧ w = w' := by
  by_cases h : b < a
  · have H : Hid (mostI a b = a) := Lib.hid (if_pos h)
    go_enter Try.func132, Try.ntmps132
    go_wp2_with fail
    go_ret
    exact ⟨by rw [H.out]; rfl, rfl⟩
  · have H : Hid (mostI a b = b) := Lib.hid (if_neg h)
    go_enter Try.func132, Try.ntmps132
    go_wp2_with fail
    go_ret
    exact ⟨by rw [H.out]; rfl, rfl⟩
/-- The greatest number with the index k of the points of a list, at least 0. -/
def mxI (n k : Nat) (c : List Nat) : Nat → Int
  | 0 => 0
  | j + 1 => mostI (mxI n k c j) ((pt n (c.getD j 0)).getD k 0)
theorem mxI_bd (n k : Nat) (c : List Nat) (h2 : n ≤ 8) (hc : ∀ j, c.getD j 0 < 45) (hk : k < 3) : ∀ j, 0 ≤ mxI n k c j ∧ mxI n k c j ≤ 100
  | 0 => ⟨Int.le_refl _, by simp [mxI]⟩
  | j + 1 => by
    have ih := mxI_bd n k c h2 hc hk j
    have hp := pt_small n (c.getD j 0) h2 (hc j) ((pt n (c.getD j 0)).getD k 0) (by
      match k, hk with
      | 0, _ => simp [pt]
      | 1, _ => simp [pt]
      | 2, _ => simp [pt])
    simp only [mxI, mostI]
    split <;> omega
/-- The sum of the greatest numbers. -/
def smI (n : Nat) (c : List Nat) : Nat → Int
  | 0 => 0
  | k + 1 => smI n c k + mxI n k c c.length
theorem smI_bd (n : Nat) (c : List Nat) (h2 : n ≤ 8) (hc : ∀ j, c.getD j 0 < 45) : ∀ k, k ≤ 3 → 0 ≤ smI n c k ∧ smI n c k ≤ 100 * k
  | 0, _ => ⟨Int.le_refl _, by simp [smI]⟩
  | k + 1, hk => by
    have ih := smI_bd n c h2 hc k (by omega)
    have := mxI_bd n k c h2 hc (by omega) c.length
    simp only [smI]; omega
def upS (n : Nat) (c : List Nat) : Bool := smI n c 3 == (n : Int) + 2
set_option maxHeartbeats 800000 in
theorem meUp_any (n : Nat) (c : List Nat) (h1 : 1 ≤ n) (h2 : n ≤ 8) (hc : ∀ j, c.getD j 0 < 45) (hl : c.length ≤ 1000) (a : Option Addr) (b len cap : Nat) (w : World) (hlen : c.length = len) (hr : Rd w a b 0 (c.map (fun (i : Nat) => (i : Int)))) (hb : a = none ∨ b < w.heap.size) :
    Calls Try.prog 107 #[.int .i64 n, .slice a len cap] w fun e w' => e = .returned (.bool (upS n c)) ∧ Below w.heap.size w w' := by
  subst hlen
  have HR := Lib.hid hr
  have HB1 := Lib.hid (mxI_bd n · c h2 hc)
  have HB2 := Lib.hid (smI_bd n c h2 hc)
  have HC := Lib.hid hc
  have HP := Lib.hid (fun j => pt_small n (c.getD j 0) h2 (hc j))
  clear hr hc
  go_enter Try.func107, Try.ntmps107
  go_wp2_with fail
  go_loopw [5, 6] (fun v5 v6 wr => ∃ k : Nat, k ≤ 3 ∧ v6 = .int .i64 k ∧ v5 = .int .i64 (smI n c k) ∧ Below w.heap.size w wr) (fun _ v6 _ => 3 - (intOf v6).toNat)
  case atStart => exact ⟨0, Nat.zero_le _, rfl, rfl, Below.refl _ _⟩
  case round =>
    obtain ⟨k, hk, rfl, rfl, hs⟩ := hrel
    by_cases hlt : k < 3
    · have hi : (k : Int) < 3 := by omega
      have hsm := HB2.out k hk
      go_wp2_with fail
      go_loopw [7, 16] (fun v7 v16 wr => ∃ j : Nat, j ≤ c.length ∧ v16 = .int .i64 j ∧ v7 = .int .i64 (mxI n k c j) ∧ Below w.heap.size w wr) (fun _ v16 _ => c.length - (intOf v16).toNat)
      case atStart => exact ⟨0, Nat.zero_le _, rfl, rfl, hs⟩
      case round =>
        clear hs
        obtain ⟨j, hj, rfl, rfl, hs⟩ := hrel
        by_cases hltj : j < c.length
        · obtain ⟨rfl, cj⟩ := HR.out.2 j (by simpa using hltj)
          have hbl : b < w.heap.size := by rcases hb with h | h; cases h; exact h
          have cj := (hs.cell (p := ⟨b, 0 + j, none⟩) hbl).trans cj
          have ej : (c.map (fun (i : Nat) => (i : Int))).getD j 0 = ((c.getD j 0 : Nat) : Int) := by
            rw [List.getD_eq_getElem?_getD, List.getElem?_map, List.getD_eq_getElem?_getD, List.getElem?_eq_getElem hltj]; rfl
          rw [ej, Nat.zero_add] at cj
          have hi2 := HC.out j
          have hmb := HB1.out k hlt j
          have hji : (j : Int) < (c.length : Int) := by omega
          have HE : Hid (mxI n k c (j + 1) = mostI (mxI n k c j) ((pt n (c.getD j 0)).getD k 0)) := Lib.hid rfl
          clear ej
          generalize c.getD j 0 = i at cj hi2 HE
          have hpk : ∀ W : World, (W.alloc (.cells #[.int .i64 ((n : Int) - (Pr.R i : Nat)), .int .i64 ((Pr.R i : Int) - (Pr.C i : Nat)), .int .i64 (Pr.C i : Nat)] 3)).cell? ⟨W.heap.size, k, none⟩ = some (.int .i64 ((pt n i).getD k 0)) := fun W => by
            rw [cell_of_row _ _ _ _ _ (0, 0) (heap_alloc_new W _)]
            match k, hlt with
            | 0, _ => rfl
            | 1, _ => rfl
            | 2, _ => rfl
          generalize (pt n i).getD k 0 = x at hpk HE
          generalize mxI n k c j = m at hmb HE ⊢
          go_wp2_with fail
          refine (meAt_any n i h1 h2 hi2 _).mono ?_
          rintro e w1 ⟨rfl, rfl⟩
          have hpw := hpk wr
          go_wp2_with fail
          refine (l1Most_any m x _).mono ?_
          rintro e w1 ⟨rfl, rfl⟩
          go_wp2_with fail
          go_roundw
          case rel => exact ⟨j + 1, by omega, by go_num, by rw [HE.out], balloc hs _⟩
          case measure => simp [intOf]; omega
        · have hj2 : j = c.length := by omega
          rw [hj2]
          have hmb := HB1.out k hlt c.length
          have HE : Hid (smI n c (k + 1) = smI n c k + mxI n k c c.length) := Lib.hid rfl
          clear hj2
          generalize mxI n k c c.length = m at hmb HE ⊢
          generalize smI n c k = s at hsm HE ⊢
          go_wp2_with fail
          go_roundw
          case rel => exact ⟨k + 1, by omega, by go_num, by rw [HE.out], hs⟩
          case measure => simp [intOf]; omega
    · have hk2 : k = 3 := by omega
      subst hk2
      have hsm := HB2.out 3 hk
      have HU : Hid (upS n c = (smI n c 3 == (n : Int) + 2)) := Lib.hid rfl
      generalize smI n c 3 = s at hsm HU ⊢
      go_wp2_with fail
      go_ret
      exact ⟨by rw [HU.out]; rfl, hs⟩
end Go.Proofs.Ytelchpdlfedleaa
