import Derived.LoopN
import Derived.BigRegion
import Derived.BigQuiet
import Derived.Test.YtelchpdlfedleaaS2
namespace Go.Proofs.Ytelchpdlfedleaa
open Go.RowKit
set_option maxRecDepth 4000
set_option maxHeartbeats 800000 in
theorem fxGcd_any (A B : Nat) (hA : A ≤ 1000) (hB : B ≤ 1000) (w : World) :
    Calls Try.prog 103 #[.int .i64 A, .int .i64 B] w fun e w' => e = .returned (.int .i64 (Nat.gcd A B : Nat)) ∧ Same w w' := by
  go_enter Try.func103, Try.ntmps103
  go_wp2_with fail
  go_loopw [0, 1] (fun v0 v1 wr => ∃ a b : Nat, v0 = .int .i64 a ∧ v1 = .int .i64 b ∧ a ≤ 1000 ∧ b ≤ 1000 ∧ Nat.gcd a b = Nat.gcd A B ∧ Same w wr) (fun _ v1 _ => (intOf v1).toNat)
  case atStart => exact ⟨A, B, rfl, rfl, hA, hB, rfl, Same.refl _⟩
  case round =>
    obtain ⟨a, b, rfl, rfl, ha, hb, hg, hs⟩ := hrel
    have HG := Lib.hid hg
    clear hg
    by_cases hb0 : 0 < b
    · have hbi : (0 : Int) < (b : Int) := by omega
      have hlt : a % b < b := Nat.mod_lt _ hb0
      have HN : Hid (Nat.gcd b (a % b) = Nat.gcd A B) := Lib.hid (by rw [← HG.out, Nat.gcd_comm a b, Nat.gcd_rec b a, Nat.gcd_comm])
      have HR : Hid (((a : Int) % (b : Int)) = ((a % b : Nat) : Int)) := Lib.hid rfl
      generalize a % b = r at *
      go_wp2_with fail
      go_quiet (fail)
      go_wp2
      go_roundw
      case rel => exact ⟨b, r, rfl, by rw [HR.out], hb, by omega, HN.out, hs.drewN _⟩
      case measure => rw [HR.out]; simp [intOf]; omega
    · have hb1 : b = 0 := by omega
      subst hb1
      have HE : Hid (a = Nat.gcd A B) := Lib.hid (by rw [← HG.out, Nat.gcd_zero_right])
      go_wp2_with fail
      go_ret
      exact ⟨ret_int (by rw [← HE.out]), hs⟩
/-- The greatest common divisor of the first k numbers. -/
def gcdL (xs : List Nat) : Nat → Nat
  | 0 => 0
  | k + 1 => Nat.gcd (gcdL xs k) (xs.getD k 0)
theorem gcd_le6 (a b : Nat) (ha : a ≤ 1000) (hb : b ≤ 1000) : Nat.gcd a b ≤ 1000 := by
  rcases Nat.eq_zero_or_pos a with rfl | h
  · rw [Nat.gcd_zero_left]; exact hb
  · exact Nat.le_trans (Nat.gcd_le_left b h) ha
theorem gcdL_le (xs : List Nat) (h : ∀ j, xs.getD j 0 ≤ 1000) : ∀ k, gcdL xs k ≤ 1000
  | 0 => by simp [gcdL]
  | k + 1 => gcd_le6 _ _ (gcdL_le xs h k) (h k)
theorem neg_rem (D M : Nat) : (-(D : Int)).tmod (-(M : Int)) = -((D % M : Nat) : Int) := by
  rw [Int.neg_tmod, Int.tmod_neg]
  rfl
set_option maxHeartbeats 1600000 in
theorem divisor_pos (X Y Z : Nat) (hX : X ≤ 1000) (hY : Y ≤ 1000) (hZ : Z ≤ 1000) (b cap : Nat) (w : World) (c0 : w.cell? ⟨b, 0, none⟩ = some (.int .i64 X)) (c1 : w.cell? ⟨b, 1, none⟩ = some (.int .i64 Y)) (c2 : w.cell? ⟨b, 2, none⟩ = some (.int .i64 Z)) :
    Calls Try.prog 106 #[.slice (some ⟨b, 0, none⟩) 3 cap] w fun e w' => e = .returned (.int .i64 (Nat.gcd (Nat.gcd X Y) Z : Nat)) ∧ Same w w' := by
  have HC : Hid (∀ k, k < 3 → w.cell? ⟨b, k, none⟩ = some (.int .i64 (([X, Y, Z].getD k 0 : Nat)))) := Lib.hid (fun k hk => by
    rcases (by omega : k = 0 ∨ k = 1 ∨ k = 2) with rfl | rfl | rfl
    · exact c0
    · exact c1
    · exact c2)
  have HB : Hid (∀ k, k < 3 → [X, Y, Z].getD k 0 ≤ 1000) := Lib.hid (fun k hk => by
    rcases (by omega : k = 0 ∨ k = 1 ∨ k = 2) with rfl | rfl | rfl
    · exact hX
    · exact hY
    · exact hZ)
  have HG : Hid (∀ k, k < 3 → gcdL [X, Y, Z] (k + 1) = Nat.gcd (gcdL [X, Y, Z] k) ([X, Y, Z].getD k 0)) := Lib.hid (fun k hk => rfl)
  have HE : Hid (gcdL [X, Y, Z] 3 = Nat.gcd (Nat.gcd X Y) Z) := Lib.hid (by simp [gcdL])
  have HL : Hid (∀ k, k ≤ 3 → gcdL [X, Y, Z] k ≤ 1000) := Lib.hid (fun k hk => gcdL_le [X, Y, Z] (fun j => by
    by_cases hj : j < 3
    · exact HB.out j hj
    · rw [List.getD_eq_getElem?_getD, List.getElem?_eq_none (by simp; omega)]; simp) k)
  have HZ : Hid (gcdL [X, Y, Z] 0 = 0) := Lib.hid rfl
  generalize [X, Y, Z] = xs at *
  clear c0 c1 c2
  go_enter Try.func106, Try.ntmps106
  go_wp2_with fail
  go_loopw [3, 8] (fun v3 v8 wr => ∃ k : Nat, k ≤ 3 ∧ v8 = .int .i64 k ∧ v3 = .int .i64 (gcdL xs k : Nat) ∧ Same w wr) (fun _ v8 _ => 3 - (intOf v8).toNat)
  case atStart => exact ⟨0, by omega, rfl, by rw [HZ.out]; rfl, Same.refl _⟩
  case round =>
    obtain ⟨k, hk, rfl, rfl, hs⟩ := hrel
    obtain ⟨wq, rfl⟩ : ∃ wq : World, wq = wr := ⟨_, rfl⟩
    by_cases hlt : k < 3
    · have hki : (k : Int) < 3 := by omega
      have cc := (hs.cell ⟨b, k, none⟩).trans (HC.out k hlt)
      have hb := HB.out k hlt
      have hl := HL.out k hk
      have HGk := Lib.hid (HG.out k hlt)
      generalize xs.getD k 0 = x at *
      generalize gcdL xs k = d at *
      go_wp2_with fail
      go_loopw [3, 5] (fun v3 v5 wr => ∃ D M : Nat, v3 = .int .i64 D ∧ v5 = .int .i64 M ∧ D ≤ 1000 ∧ M ≤ 1000 ∧ Nat.gcd D M = Nat.gcd d x ∧ Same w wr) (fun _ v5 _ => (intOf v5).toNat)
      case atStart => exact ⟨d, x, rfl, rfl, hl, hb, rfl, hs⟩
      case round =>
        clear hs
        obtain ⟨D, M, rfl, rfl, hD, hM, hg, hs⟩ := hrel
        have HGG := Lib.hid hg
        clear hg
        by_cases hb0 : M = 0
        · have HEE : Hid (D = gcdL xs (k + 1)) := Lib.hid (by rw [HGk.out, ← HGG.out, hb0, Nat.gcd_zero_right])
          have hd : ((M : Int) != 0) = false := by simpa using hb0
          clear hb0
          go_wp2_with fail
          go_roundw
          case rel => exact ⟨k + 1, by omega, by go_num, by rw [← HEE.out], hs⟩
          case measure => simp [intOf]; omega
        · have hd : ((M : Int) != 0) = true := by simpa using hb0
          have hMi : (0 : Int) < (M : Int) := by omega
          have hlt2 : D % M < M := Nat.mod_lt _ (by omega)
          have HN : Hid (Nat.gcd M (D % M) = Nat.gcd d x) := Lib.hid (by rw [← HGG.out, Nat.gcd_comm D M, Nat.gcd_rec M D, Nat.gcd_comm])
          have HR : Hid (((D : Int) % (M : Int)) = ((D % M : Nat) : Int)) := Lib.hid rfl
          generalize D % M = r at *
          go_wp2_with fail
          go_quiet (fail)
          go_wp2
          go_roundw
          case rel => exact ⟨M, r, rfl, by rw [HR.out], hM, by omega, HN.out, hs.drewN _⟩
          case measure => rw [HR.out]; simp [intOf]; omega
    · have hk3 : k = 3 := by omega
      subst hk3
      go_wp2_with fail
      go_ret
      exact ⟨ret_int (by rw [HE.out]), hs⟩
end Go.Proofs.Ytelchpdlfedleaa
