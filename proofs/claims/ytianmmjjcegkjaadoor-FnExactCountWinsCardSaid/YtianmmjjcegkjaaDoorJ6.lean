import Derived.Test.YtianmmjjcegkjaaDoorJ5
namespace Go.Proofs.YtianmmjjcegkjaaDoor
open Go.RowKit
set_option maxRecDepth 4000
/-- How many of the first K full boards a player wins. -/
def cW (n m s : Nat) (p : Int) : Nat → Nat
  | 0 => 0
  | K + 1 => cW n m s p K + (if needK n m s (fvL K s) p = 0 then 1 else 0)
theorem cW_le (n m s : Nat) (p : Int) : ∀ K, cW n m s p K ≤ K
  | 0 => Nat.le_refl _
  | K + 1 => by
    have := cW_le n m s p K
    unfold cW
    split <;> omega
theorem allB_low {xs : List Int} (h : allB 1 2 xs = true) : allB 0 2 xs = true := by
  simp only [allB, List.all_eq_true, decide_eq_true_eq] at *
  intro y hy
  have := h y hy
  omega
theorem pow_all : ∀ s : Nat, s ≤ 9 → (2 ^ s ≤ 512 ∧ ((2 : Int) ^ s) = ((2 ^ s : Nat) : Int)) := by decide +kernel
set_option maxHeartbeats 1600000 in
theorem specCW_yes (n m s : Nat) (p : Int) (hp : p = 1 ∨ p = 2) (h1 : 1 ≤ n) (h2 : 1 ≤ m) (hnm : n * m = s) (h9 : s ≤ 9) (hS : sidesB n m = true) (w : World) :
    Calls Tryd.prog 4 #[.int .i64 n, .int .i64 m, .int .i64 p] w fun e w' => e = .returned (.tuple #[.int .i64 (cW n m s p (2 ^ s) : Nat), .bool true]) ∧ Below w.heap.size w w' := by
  have HS := Lib.hid (hxSides_any n m w)
  rw [hS] at HS
  have HP := Lib.hid (fun w => hxPlayer_any p w)
  have hq : (p == 1 || p == 2) = true := by rcases hp with rfl | rfl <;> rfl
  rw [hq] at HP
  have HN : Hid (∀ (x : Nat) (a : Option Addr) (b cap : Nat) (w : World), Rd w a b 0 (fvL x s) → ((fvL x s).length = 0 ∨ b < w.heap.size) → Calls Tryd.prog 8 #[.int .i64 n, .int .i64 m, .slice a s cap, .int .i64 p] w fun e w' => e = .returned (.int .i64 (needK n m s (fvL x s) p : Nat)) ∧ Below w.heap.size w w') := Lib.hid (fun x a b cap w h hb => hxNeed_any n m s (fvL x s) p hp h1 h2 hnm (by omega) (fvL_len x s) (allB_low (fvL_12 x s)) a b s cap w (fvL_len x s) h (by rw [fvL_len] at hb; exact hb))
  have hpr : (n : Int) * (m : Int) = (s : Int) := by rw [← hnm]; exact (Int.natCast_mul n m).symm
  have hpw : wrap64 ((n : Int) * (m : Int)) = (s : Int) := by rw [hpr, IntWalk.wrap64_in _ ⟨by omega, by omega⟩]
  have HW := Lib.hid hpr
  have hs9 : ¬ ((s : Int) > 9) := by omega
  have hsi : (s : Int) ≤ 9 := by omega
  obtain ⟨hN5, hN⟩ := pow_all s h9
  generalize hNN : 2 ^ s = N at *
  clear hp hnm hS hq hpr hNN
  go_enter Tryd.func4, Tryd.ntmps4
  go_wp2_with fail
  refine HS.out.mono ?_
  rintro e w1 ⟨rfl, rfl⟩
  go_wp2_with fail
  refine (HP.out _).mono ?_
  rintro e w1 ⟨rfl, rfl⟩
  go_wp2_with fail
  (try rw [hpw])
  go_loopw [9, 10] (fun v9 v10 wr => ∃ K : Nat, K ≤ N ∧ v9 = .int .i64 (cW n m s p K : Nat) ∧ v10 = .int .i64 K ∧ Below w.heap.size w wr) (fun _ v10 _ => N - (intOf v10).toNat)
  case atStart => exact ⟨0, Nat.zero_le _, rfl, rfl, Below.refl _ _⟩
  case round =>
    obtain ⟨K, hK, rfl, rfl, hb⟩ := hrel
    obtain ⟨wq, hwq⟩ : ∃ wq : World, wq = wr := ⟨_, rfl⟩
    subst hwq
    by_cases hlt : K < N
    · have hKi : (K : Int) < (N : Int) := by omega
      have hcl := cW_le n m s p K
      have HCS : Hid (cW n m s p (K + 1) = cW n m s p K + (if needK n m s (fvL K s) p = 0 then 1 else 0)) := Lib.hid rfl
      have hK5 : K < 512 := by omega
      have HFM := Lib.hid (fun i (hi : i < 9) => fmod_all K hK5 i hi)
      have HNK := Lib.hid (HN.out K)
      have hzq := hb.size
      generalize needK n m s (fvL K s) p = u at HCS HNK
      generalize cW n m s p K = c at hcl HCS
      go_wp2_with fail
      go_loopw [11, 12] (fun v11 v12 wr => ∃ k : Nat, k ≤ s ∧ v12 = .int .i64 k ∧ wr.ownsRow wq.heap.size 3 1 v11 (fvL K k).length ((fvL K k).map (Value.int .i64)) ∧ Below wq.heap.size wq wr) (fun _ v12 _ => s - (intOf v12).toNat)
      case atStart => exact ⟨0, Nat.zero_le _, rfl, World.ownsRow_nil _ _ _ _, Below.refl _ _⟩
      case round =>
        obtain ⟨k, hk, rfl, ho, hb2⟩ := hrel
        obtain ⟨wz, hwz⟩ : ∃ wz : World, wz = wr := ⟨_, rfl⟩
        subst hwz
        have hz2 := hb2.size
        by_cases hks : k < s
        · have hki : (k : Int) < (s : Int) := by omega
          have hk9 : (k : Int) < 9 := by omega
          have hfm := HFM.out k (by omega)
          have HFS : Hid (fvL K (k + 1) = fvL K k ++ [((1 + K / 2 ^ k % 2 : Nat) : Int)]) := Lib.hid (fvL_succ K k)
          have hbv : K / 2 ^ k % 2 ≤ 1 := by omega
          generalize K / 2 ^ k % 2 = bv at hfm HFS hbv
          have HLN := Lib.hid (fvL_len K k)
          have HO := Lib.hid ho
          have HB2 := Lib.hid hb2
          clear ho
          go_wp2_with (at_builtin; go_loud (refine append_intg wq.heap.size _ wz _ (fvL K k) _ rfl _ _ rfl rfl rfl rfl HO.out hz2 (by have := HLN.out; omega) ?_; intro v' w3 ho3 hb3))
          go_roundw
          case rel => exact ⟨k + 1, by omega, by go_num, by rw [HFS.out]; exact ho3, HB2.out.trans hb3⟩
          case measure => simp [intOf]; omega
        · have hk2 : k = s := by omega
          subst hk2
          obtain ⟨hln, va, vc, vb, rfl, hbd, hrd⟩ := own_new ho
          rw [fvL_len] at *
          have HB2 := Lib.hid hb2
          have HCA := Lib.hid (HNK.out va vb vc wz hrd (hbd.imp id fun h => h.2))
          clear ho hrd hbd hb2
          go_wp2_with fail
          refine HCA.out.mono ?_
          rintro e w4 ⟨rfl, hb4⟩
          have hb5 := hb.trans (HB2.out.mono hzq)
          have hb6 := bnext hb5 hb4
          have HB6 := Lib.hid hb6
          clear hb5 hb6 hb4
          by_cases hu : u = 0
          · have HX : Hid (cW n m k p (K + 1) = c + 1) := Lib.hid (by rw [HCS.out, if_pos hu])
            have hu1 : ((u : Int) == 0) = true := by simpa using hu
            clear hu
            go_wp2_with fail
            go_roundw
            case rel => exact ⟨K + 1, by omega, by rw [HX.out]; go_num, by go_num, HB6.out⟩
            case measure => simp [intOf]; omega
          · have HX : Hid (cW n m k p (K + 1) = c) := Lib.hid (by rw [HCS.out, if_neg hu]; rfl)
            have hu1 : ((u : Int) == 0) = false := by simpa using hu
            clear hu
            go_wp2_with fail
            go_roundw
            case rel => exact ⟨K + 1, by omega, by rw [HX.out], by go_num, HB6.out⟩
            case measure => simp [intOf]; omega
    · have hk2 : K = N := by omega
      subst hk2
      go_wp2_with fail
      go_ret2
      exact ⟨rfl, hb⟩
end Go.Proofs.YtianmmjjcegkjaaDoor
