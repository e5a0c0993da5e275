import Derived.RegionTactic
import Derived.Test.YtncpnkcdjfohgaaDoorMb5
namespace Go.Proofs.YtncpnkcdjfohgaaDoor
open Go.RowKit
set_option maxRecDepth 4000
/-- The favourite of the first k pieces: the first one of those with slices that is worth most, -1 if none has any. -/
def favStep (W : Nat → Int) (s : Nat → Nat) (k : Nat) (b : Int) : Int := if 0 < s k ∧ (b < 0 ∨ W b.toNat < W k) then (k : Int) else b
def favL (W : Nat → Int) (s : Nat → Nat) : Nat → Int
  | 0 => -1
  | k + 1 => favStep W s k (favL W s k)
theorem favL_bd (W : Nat → Int) (s : Nat → Nat) : ∀ k : Nat, -1 ≤ favL W s k ∧ favL W s k < (k : Int)
  | 0 => by simp [favL]
  | k + 1 => by
    have h := favL_bd W s k
    simp only [favL, favStep]
    split <;> omega
def favP (t : List Int) (n i : Nat) : Int := favL (worth t n i) (sz3 n i) 3
theorem favL_pos (W : Nat → Int) (s : Nat → Nat) (k j : Nat) (hj : j < k) (h : 0 < s j) : 0 ≤ favL W s k := by
  induction k with
  | zero => omega
  | succ k ih =>
    simp only [favL, favStep]
    by_cases e : j = k
    · subst e
      by_cases hb : favL W s j < 0
      · rw [if_pos ⟨h, .inl hb⟩]; omega
      · split <;> omega
    · have := ih (by omega)
      split <;> omega
theorem favP_bd (t : List Int) (n i : Nat) (h1 : 1 ≤ n) (hR : Pr.R i ≤ n) (hC : Pr.C i ≤ Pr.R i) : 0 ≤ favP t n i ∧ favP t n i ≤ 2 := by
  have h := favL_bd (worth t n i) (sz3 n i) 3
  have hp : 0 ≤ favP t n i := by
    by_cases e0 : 0 < sz3 n i 0
    · exact favL_pos _ _ 3 0 (by omega) e0
    · by_cases e1 : 0 < sz3 n i 1
      · exact favL_pos _ _ 3 1 (by omega) e1
      · refine favL_pos _ _ 3 2 (by omega) ?_
        simp [sz3] at e0 e1 ⊢
        omega
  unfold favP at *
  omega
theorem rd_three {w : World} {a : Option Addr} {b : Nat} {xs : List Int} (h : Rd w a b 0 xs) (hl : xs.length = 3) : a = some ⟨b, 0, none⟩ ∧ ∀ k, k < 3 → w.cell? ⟨b, k, none⟩ = some (.int .i64 (xs.getD k 0)) :=
  ⟨(h.2 0 (by omega)).1, fun k hk => by have := (h.2 k (by omega)).2; rwa [Nat.zero_add] at this⟩
theorem pcs_getD (t : List Int) (n i k : Nat) (hk : k < 3) : (pcs t n i).getD k 0 = worth t n i k := by
  rcases (by omega : k = 0 ∨ k = 1 ∨ k = 2) with rfl | rfl | rfl <;> rfl
set_option maxHeartbeats 3200000 in
theorem favourite_any (n i : Nat) (h1 : 1 ≤ n) (h2 : n ≤ 8) (hi : i < Pr.cnt n) (t : List Int) (w : World) :
    Calls Tryd.prog 122 #[.agg #[.int .i64 ((n : Int) - (Pr.R i : Nat)), .int .i64 ((Pr.R i : Int) - (Pr.C i : Nat)), .int .i64 (Pr.C i : Nat)], .agg #[.int .i64 (worth t n i 0), .int .i64 (worth t n i 1), .int .i64 (worth t n i 2)]] w fun e w' => e = .returned (.int .i64 (favP t n i)) ∧ Below w.heap.size w w' := by
  have hc := (Pr.cnt_le n (by omega)).1
  have hR := Pr.R_le_of_lt n (by omega) i hi
  have hC := (Pr.RC_bd i (by omega)).1
  have HSZ : Hid (∀ k, k < 3 → ([(n : Int) - (Pr.R i : Nat), (Pr.R i : Int) - (Pr.C i : Nat), (Pr.C i : Nat)] : List Int).getD k 0 = (sz3 n i k : Nat)) := Lib.hid (fun k hk => sz3_pt n i k hR hC hk)
  have HV : Hid (favP t n i = favL (worth t n i) (sz3 n i) 3) := Lib.hid rfl
  generalize (n : Int) - (Pr.R i : Nat) = ea at *
  generalize (Pr.R i : Int) - (Pr.C i : Nat) = eb at *
  generalize ((Pr.C i : Nat) : Int) = ec at *
  generalize worth t n i = W at *
  generalize sz3 n i = s at *
  generalize favP t n i = fv at *
  clear hR hC hc
  obtain ⟨w2, hw2⟩ : ∃ w2, w2 = (w.alloc (.cells #[.int .i64 ea, .int .i64 eb, .int .i64 ec] 75)).alloc (.cells #[.int .i64 (W 0), .int .i64 (W 1), .int .i64 (W 2)] 68) := ⟨_, rfl⟩
  have hb2 : Below w.heap.size w w2 := by rw [hw2]; exact balloc (balloc (Below.refl _ _) _) _
  have HC2 : Hid (∀ k, k < 3 → w2.cell? ⟨w.heap.size + 1, k, none⟩ = some (.int .i64 (W k))) := Lib.hid (fun k hk => by
    rw [hw2, World.cell?_alloc_at _ _ _ _ (by simp)]
    rcases (by omega : k = 0 ∨ k = 1 ∨ k = 2) with rfl | rfl | rfl <;> rfl)
  have HW2 := Lib.hid hw2
  clear hw2
  go_enter Tryd.func122, Tryd.ntmps122
  go_wp2_with fail
  rw [← HW2.out]
  go_loopw [5, 9] (fun v5 v9 wr => ∃ k : Nat, k ≤ 3 ∧ v9 = .int .i64 k ∧ v5 = .int .i64 (favL W s k) ∧ Same w2 wr) (fun _ v9 _ => 3 - (intOf v9).toNat)
  case atStart => exact ⟨0, by omega, rfl, rfl, Same.refl _⟩
  case round =>
    obtain ⟨k, hk, rfl, rfl, hs⟩ := hrel
    by_cases hlt : k < 3
    · have hki : (k : Int) < 3 := by omega
      have hidx := idx3' ea eb ec k hlt
      rw [HSZ.out k hlt] at hidx
      have ck := (hs.cell ⟨w.heap.size + 1, k, none⟩).trans (HC2.out k hlt)
      have hbd := favL_bd W s k
      have HS : Hid (favL W s (k + 1) = favStep W s k (favL W s k)) := Lib.hid rfl
      generalize favL W s k = b at *
      have HST : Hid (favStep W s k b = if 0 < s k ∧ (b < 0 ∨ W b.toNat < W k) then (k : Int) else b) := Lib.hid rfl
      by_cases hp : 0 < s k
      · by_cases hb : b < 0
        · have HE : Hid (favL W s (k + 1) = k) := Lib.hid (by rw [HS.out, HST.out, if_pos ⟨hp, .inl hb⟩])
          clear HS HST
          generalize s k = sk at *
          have hd : (0 : Int) < (sk : Int) := by omega
          go_wp2_with fail
          go_quiet (fail)
          go_wp2
          go_roundw
          case rel => exact ⟨k + 1, by omega, by go_num, by rw [HE.out], hs.drewN _⟩
          case measure => simp [intOf]; omega
        · obtain ⟨j, rfl⟩ := Int.eq_ofNat_of_zero_le (show 0 ≤ b by omega)
          have hjk : j < 3 := by omega
          have hji : (j : Int) < 3 := by omega
          have cj := (hs.cell ⟨w.heap.size + 1, j, none⟩).trans (HC2.out j hjk)
          have hbF : decide ((j : Int) < 0) = false := by simp
          by_cases hg : W j < W k
          · have HE : Hid (favL W s (k + 1) = k) := Lib.hid (by rw [HS.out, HST.out, if_pos ⟨hp, .inr (by simpa using hg)⟩])
            clear HS HST hb
            generalize s k = sk at *
            have hd : (0 : Int) < (sk : Int) := by omega
            generalize W k = wk at *
            generalize W j = wj at *
            go_wp2_with fail
            go_quiet (fail)
            go_wp2
            go_roundw
            case rel => exact ⟨k + 1, by omega, by go_num, by rw [HE.out], hs.drewN _⟩
            case measure => simp [intOf]; omega
          · have HE : Hid (favL W s (k + 1) = j) := Lib.hid (by rw [HS.out, HST.out, if_neg (fun h => h.2.elim hb (fun h => hg (by simpa using h)))])
            clear HS HST hb
            generalize s k = sk at *
            have hd : (0 : Int) < (sk : Int) := by omega
            generalize W k = wk at *
            generalize W j = wj at *
            have hgF : decide (wj < wk) = false := by simp; omega
            go_wp2_with fail
            go_quiet (fail)
            go_wp2
            go_roundw
            case rel => exact ⟨k + 1, by omega, by go_num, by rw [HE.out], hs.drewN _⟩
            case measure => simp [intOf]; omega
      · have HE : Hid (favL W s (k + 1) = b) := Lib.hid (by rw [HS.out, HST.out, if_neg (fun h => hp h.1)])
        clear HS HST
        generalize s k = sk at *
        have hd : decide ((0 : Int) < (sk : Int)) = false := by simp; omega
        go_wp2_with fail
        go_quiet (fail)
        go_wp2
        go_roundw
        case rel => exact ⟨k + 1, by omega, by go_num, by rw [HE.out], hs.drewN _⟩
        case measure => simp [intOf]; omega
    · have hk3 : k = 3 := by omega
      subst hk3
      go_wp2_with fail
      go_ret
      exact ⟨ret_int HV.out.symm, below_same hb2 hs⟩
end Go.Proofs.YtncpnkcdjfohgaaDoor
