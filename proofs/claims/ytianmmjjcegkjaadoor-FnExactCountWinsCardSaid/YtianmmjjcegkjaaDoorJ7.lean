import Derived.Test.YtianmmjjcegkjaaDoorJ6
namespace Go.Proofs.YtianmmjjcegkjaaDoor
open Go.RowKit
set_option maxRecDepth 4000
theorem win_eq (n m s x : Nat) (p : Int) (hp : p = 1 ∨ p = 2) (h1 : 1 ≤ n) (h2 : 1 ≤ m) (hnm : n * m = s) (h9 : s ≤ 9) :
    ((if (needK n m s (fvL x s) 1 == 0) = true then (1 : Int) else 2) == p) = decide (needK n m s (fvL x s) p = 0) := by
  have h := one_wins n m s (fvL x s) h1 h2 hnm h9 (fvL_len x s) (fvL_12 x s)
  rcases hp with rfl | rfl
  · by_cases e : needK n m s (fvL x s) 1 = 0 <;> simp [e]
  · have hh : needK n m s (fvL x s) 2 = 0 ↔ ¬ needK n m s (fvL x s) 1 = 0 := by
      constructor
      · intro e e'; simp [e, e'] at h
      · intro e
        have e' : (needK n m s (fvL x s) 1 == 0) = false := by simpa using e
        rw [e'] at h
        simpa using h
    by_cases e : needK n m s (fvL x s) 1 = 0
    · have h' : ¬ needK n m s (fvL x s) 2 = 0 := fun h => hh.1 h e
      simp [e, h']
    · have h' := hh.2 e
      simp [e, h']
set_option maxHeartbeats 1600000 in
theorem implCW_yes (n m s : Nat) (p : Int) (hp : p = 1 ∨ p = 2) (h1 : 1 ≤ n) (h2 : 1 ≤ m) (hnm : n * m = s) (h9 : s ≤ 9) (w : World) (hv : HxV w) :
    Calls Tryd.prog 5 #[.int .i64 n, .int .i64 m, .int .i64 p] w fun e w' => e = .returned (.tuple #[.int .i64 (cW n m s p (2 ^ s) : Nat), .bool true]) ∧ Below w.heap.size w w' := by
  have HG := Lib.hid (gridOf_yes n m s h1 h2 hnm (by omega) w)
  have HZ := Lib.hid (fun w => gridSize_any n m s hnm (by omega) w)
  have HP := Lib.hid (fun w => isPlayer_any p w)
  have hq : (p == 1 || p == 2) = true := by rcases hp with rfl | rfl <;> rfl
  rw [hq] at HP
  have HF := Lib.hid (fun x (hx : x < 512) w => filled_any n m s x hnm h9 hx w)
  have HWI := Lib.hid (fun x w (hv : HxV w) => winner_any n m s (fvL x s) h1 h2 hnm (by omega) (fvL_len x s) (allB_low (fvL_12 x s)) w hv)
  have HWE := Lib.hid (fun x => win_eq n m s x p hp h1 h2 hnm h9)
  have HV := Lib.hid hv
  have hs9 : ¬ ((s : Int) > 9) := by omega
  have hsi : (s : Int) ≤ 9 := by omega
  obtain ⟨hN5, hN⟩ := pow_all s h9
  generalize hNN : 2 ^ s = N at *
  clear hp hnm hq hNN hv
  go_enter Tryd.func5, Tryd.ntmps5
  go_wp2_with fail
  refine HG.out.mono ?_
  rintro e w1 ⟨rfl, hb1⟩
  have hba := balloc hb1 (.cells #[.int .i64 n, .int .i64 m] 30)
  have hg1 := heap_alloc_new w1 (.cells #[.int .i64 n, .int .i64 m] 30)
  have hs1 : w1.heap.size < (w1.alloc (.cells #[.int .i64 n, .int .i64 m] 30)).heap.size := by simp
  go_wp2_with fail
  generalize w1.alloc (.cells #[.int .i64 n, .int .i64 m] 30) = w2 at hba hg1 hs1 ⊢
  have m0 : w2.cell? ⟨w1.heap.size, 0, none⟩ = some (.int .i64 n) := blk_cell hg1 0 _ rfl
  have m1 : w2.cell? ⟨w1.heap.size, 1, none⟩ = some (.int .i64 m) := blk_cell hg1 1 _ rfl
  (try go_wp2_with fail)
  refine (HP.out _).mono ?_
  rintro e w3 ⟨rfl, rfl⟩
  go_wp2_with fail
  refine (HZ.out _).mono ?_
  rintro e w3 ⟨rfl, hb3⟩
  have n0 := (hb3.cell (p := ⟨w1.heap.size, 0, none⟩) hs1).trans m0
  have n1 := (hb3.cell (p := ⟨w1.heap.size, 1, none⟩) hs1).trans m1
  have hB3 := bnext hba hb3
  have hz3 := hb3.size
  clear m0 m1 hba hb3 hb1 hg1
  go_wp2_with fail
  refine (HZ.out _).mono ?_
  rintro e w4 ⟨rfl, hb4⟩
  have k0 := Lib.hid ((hb4.cell (p := ⟨w1.heap.size, 0, none⟩) (by show w1.heap.size < _; omega)).trans n0)
  have k1 := Lib.hid ((hb4.cell (p := ⟨w1.heap.size, 1, none⟩) (by show w1.heap.size < _; omega)).trans n1)
  have hB4 := bnext hB3 hb4
  have hz4 : w1.heap.size < w4.heap.size := by have := hb4.size; omega
  clear n0 n1 hB3 hb4 hz3 hs1
  go_wp2_with fail
  go_loopw [10, 33] (fun v10 v33 wr => ∃ K : Nat, K ≤ N ∧ v10 = .int .i64 (cW n m s p K : Nat) ∧ v33 = .int .i64 K ∧ Below w4.heap.size w4 wr) (fun _ v33 _ => N - (intOf v33).toNat)
  case atStart => exact ⟨0, Nat.zero_le _, rfl, rfl, Below.refl _ _⟩
  case round =>
    obtain ⟨K, hK, rfl, rfl, hb⟩ := hrel
    obtain ⟨wq, hwq⟩ : ∃ wq : World, wq = wr := ⟨_, rfl⟩
    subst hwq
    by_cases hlt : K < N
    · have hKi : (K : Int) < (N : Int) := by omega
      have hcl := cW_le n m s p K
      have HCS : Hid (cW n m s p (K + 1) = cW n m s p K + (if needK n m s (fvL K s) p = 0 then 1 else 0)) := Lib.hid rfl
      have hK5 : K < 512 := by omega
      have HFK := Lib.hid (HF.out K hK5)
      have HWK := Lib.hid (HWI.out K)
      have HEK := Lib.hid (HWE.out K)
      have c0 := (hb.cell (p := ⟨w1.heap.size, 0, none⟩) hz4).trans k0.out
      have c1 := (hb.cell (p := ⟨w1.heap.size, 1, none⟩) hz4).trans k1.out
      have HB := Lib.hid hb
      generalize needK n m s (fvL K s) p = u at HCS HEK
      generalize (if (needK n m s (fvL K s) 1 == 0) = true then (1 : Int) else 2) = z at HWK HEK
      generalize cW n m s p K = c at hcl HCS
      generalize (hbL n m (fvL K s)).toArray = bd at HFK HWK
      clear hb
      go_wp2_with fail
      refine (HFK.out _).mono ?_
      rintro e w5 ⟨rfl, hb5⟩
      have hB5 := bnext HB.out hb5
      go_wp2_with fail
      refine (HWK.out _ (hxv_later HV.out (bnext hB4 hB5))).mono ?_
      rintro e w6 ⟨rfl, hb6⟩
      have HB6 := Lib.hid (bnext hB5 hb6)
      clear hb5 hb6 hB5 c0 c1
      by_cases hu : u = 0
      · have HX : Hid (cW n m s p (K + 1) = c + 1) := Lib.hid (by rw [HCS.out, if_pos hu])
        have hu1 : (z == p) = true := by rw [HEK.out]; simpa using hu
        clear hu
        go_wp2_with fail
        go_roundw
        case rel => exact ⟨K + 1, by omega, by rw [HX.out]; go_num, by go_num, HB6.out⟩
        case measure => simp [intOf]; omega
      · have HX : Hid (cW n m s p (K + 1) = c) := Lib.hid (by rw [HCS.out, if_neg hu]; rfl)
        have hu1 : (z == p) = false := by rw [HEK.out]; simpa using hu
        clear hu
        go_wp2_with fail
        go_roundw
        case rel => exact ⟨K + 1, by omega, by rw [HX.out], by go_num, HB6.out⟩
        case measure => simp [intOf]; omega
    · have hk2 : K = N := by omega
      subst hk2
      go_wp2_with fail
      go_ret2
      exact ⟨rfl, bnext hB4 hb⟩
end Go.Proofs.YtianmmjjcegkjaaDoor
