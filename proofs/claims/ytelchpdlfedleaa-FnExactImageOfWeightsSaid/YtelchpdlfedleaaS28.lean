import Derived.LoopN
import Derived.BigRegion
import Derived.BigQuiet
import Derived.Test.YtelchpdlfedleaaS27
namespace Go.Proofs.Ytelchpdlfedleaa
open Go.RowKit
set_option maxRecDepth 4000
set_option maxHeartbeats 1600000 in
theorem divisor_neg (X Y Z : Nat) (hX : X ≤ 1000) (hY : Y ≤ 1000) (hZ : Z ≤ 1000) (b cap : Nat) (w : World) (c0 : w.cell? ⟨b, 0, none⟩ = some (.int .i64 (-(X : Int)))) (c1 : w.cell? ⟨b, 1, none⟩ = some (.int .i64 (-(Y : Int)))) (c2 : w.cell? ⟨b, 2, none⟩ = some (.int .i64 (-(Z : Int)))) :
    Calls Try.prog 106 #[.slice (some ⟨b, 0, none⟩) 3 cap] w fun e w' => e = .returned (.int .i64 (-((Nat.gcd (Nat.gcd X Y) Z : Nat) : Int))) ∧ Same w w' := by
  have HC : Hid (∀ k, k < 3 → w.cell? ⟨b, k, none⟩ = some (.int .i64 (-(([X, Y, Z].getD k 0 : Nat) : Int)))) := Lib.hid (fun k hk => by
    rcases (by omega : k = 0 ∨ k = 1 ∨ k = 2) with rfl | rfl | rfl
    · exact c0
    · exact c1
    · exact c2)
  have HB : Hid (∀ k, k < 3 → [X, Y, Z].getD k 0 ≤ 1000) := Lib.hid (fun k hk => by
    rcases (by omega : k = 0 ∨ k = 1 ∨ k = 2) with rfl | rfl | rfl
    · exact hX
    · exact hY
    · exact hZ)
  have HG : Hid (∀ k, k < 3 → gcdL [X, Y, Z] (k + 1) = Nat.gcd (gcdL [X, Y, Z] k) ([X, Y, Z].getD k 0)) := Lib.hid (fun k hk => rfl)
  have HE : Hid (gcdL [X, Y, Z] 3 = Nat.gcd (Nat.gcd X Y) Z) := Lib.hid (by simp [gcdL])
  have HL : Hid (∀ k, k ≤ 3 → gcdL [X, Y, Z] k ≤ 1000) := Lib.hid (fun k hk => gcdL_le [X, Y, Z] (fun j => by
    by_cases hj : j < 3
    · exact HB.out j hj
    · rw [List.getD_eq_getElem?_getD, List.getElem?_eq_none (by simp; omega)]; simp) k)
  have HZ : Hid (gcdL [X, Y, Z] 0 = 0) := Lib.hid rfl
  generalize [X, Y, Z] = xs at *
  clear c0 c1 c2
  go_enter Try.func106, Try.ntmps106
  go_wp2_with fail
  go_loopw [3, 8] (fun v3 v8 wr => ∃ k : Nat, k ≤ 3 ∧ v8 = .int .i64 k ∧ v3 = .int .i64 (-((gcdL xs k : Nat) : Int)) ∧ Same w wr) (fun _ v8 _ => 3 - (intOf v8).toNat)
  case atStart => exact ⟨0, by omega, rfl, by rw [HZ.out]; rfl, Same.refl _⟩
  case round =>
    obtain ⟨k, hk, rfl, rfl, hs⟩ := hrel
    obtain ⟨wq, rfl⟩ : ∃ wq : World, wq = wr := ⟨_, rfl⟩
    by_cases hlt : k < 3
    · have hki : (k : Int) < 3 := by omega
      have cc := (hs.cell ⟨b, k, none⟩).trans (HC.out k hlt)
      have hb := HB.out k hlt
      have hl := HL.out k hk
      have HGk := Lib.hid (HG.out k hlt)
      generalize xs.getD k 0 = x at *
      generalize gcdL xs k = d at *
      go_wp2_with fail
      go_loopw [3, 5] (fun v3 v5 wr => ∃ D M : Nat, v3 = .int .i64 (-(D : Int)) ∧ v5 = .int .i64 (-(M : Int)) ∧ D ≤ 1000 ∧ M ≤ 1000 ∧ Nat.gcd D M = Nat.gcd d x ∧ Same w wr) (fun _ v5 _ => (intOf v5).natAbs)
      case atStart => exact ⟨d, x, rfl, rfl, hl, hb, rfl, hs⟩
      case round =>
        clear hs
        obtain ⟨D, M, rfl, rfl, hD, hM, hg, hs⟩ := hrel
        have HGG := Lib.hid hg
        clear hg
        by_cases hb0 : M = 0
        · have HEE : Hid (D = gcdL xs (k + 1)) := Lib.hid (by rw [HGk.out, ← HGG.out, hb0, Nat.gcd_zero_right])
          have hd : (-(M : Int) != 0) = false := by simp; omega
          clear hb0
          go_wp2_with fail
          go_roundw
          case rel => exact ⟨k + 1, by omega, by go_num, by rw [← HEE.out], hs⟩
          case measure => simp [intOf]; omega
        · have hd : (-(M : Int) != 0) = true := by simp; omega
          have hMi : (0 : Int) < (M : Int) := by omega
          have hlt2 : D % M < M := Nat.mod_lt _ (by omega)
          have HN : Hid (Nat.gcd M (D % M) = Nat.gcd d x) := Lib.hid (by rw [← HGG.out, Nat.gcd_comm D M, Nat.gcd_rec M D, Nat.gcd_comm])
          have HR : Hid (((D : Int) % (M : Int)) = ((D % M : Nat) : Int)) := Lib.hid rfl
          generalize D % M = r at *
          go_wp2_with fail
          go_quiet (fail)
          go_wp2
          go_roundw
          case rel => exact ⟨M, r, rfl, by rw [HR.out], hM, by omega, HN.out, hs.drewN _⟩
          case measure => (rw [HR.out]; simp only [intOf, Int.natAbs_neg, Int.natAbs_natCast]; exact hlt2)
    · have hk3 : k = 3 := by omega
      subst hk3
      go_wp2_with fail
      go_ret
      exact ⟨ret_int (by rw [HE.out]), hs⟩
end Go.Proofs.Ytelchpdlfedleaa
