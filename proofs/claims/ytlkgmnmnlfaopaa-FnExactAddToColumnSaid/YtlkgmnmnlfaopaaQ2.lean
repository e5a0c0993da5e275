import Derived.LoopN
import Derived.BigRegion
import Derived.BigQuiet
import Derived.Test.YtlkgmnmnlfaopaaQ1
namespace Go.Proofs.Ytlkgmnmnlfaopaa
open Go.RowKit
set_option maxRecDepth 4000
/-- Whether numbers are weights for n choices, up to hi. -/
def natsOf (xs : List Int) : List Nat := xs.map Int.toNat
def wB (n hi : Int) (xs : List Int) : Bool := decide ((xs.length : Int) = n) && allB 0 hi xs && decide (gcdK (natsOf xs) xs.length = 1)
theorem nats_len (xs : List Int) : (natsOf xs).length = xs.length := by simp [natsOf]
theorem nats_at (xs : List Int) (k : Nat) : (natsOf xs).getD k 0 = (xs.getD k 0).toNat := by
  simp only [natsOf, List.getD_eq_getElem?_getD, List.getElem?_map]
  cases xs[k]? <;> rfl
theorem nats_le (hi : Nat) (xs : List Int) (h : allB 0 (hi : Int) xs = true) (k : Nat) : (natsOf xs).getD k 0 ≤ hi := by
  rw [nats_at]
  by_cases hk : k < xs.length
  · have := allB_at h k hk; omega
  · rw [List.getD_eq_getElem?_getD, List.getElem?_eq_none (by omega)]; simp
theorem nats_cast (xs : List Int) (hi : Int) (h : allB 0 hi xs = true) : (natsOf xs).map (fun (i : Nat) => (i : Int)) = xs := by
  apply List.ext_getElem?
  intro k
  simp only [natsOf, List.getElem?_map]
  by_cases hk : k < xs.length
  · have := allB_at h k hk
    rw [List.getD_eq_getElem?_getD, List.getElem?_eq_getElem hk] at this
    rw [List.getElem?_eq_getElem hk]
    simp only [Option.map_some, Option.some.injEq, Option.getD_some] at *
    omega
  · rw [List.getElem?_eq_none (by omega)]; rfl
theorem wB_yes {n hi : Int} {xs : List Int} (h : wB n hi xs = true) : (xs.length : Int) = n ∧ allB 0 hi xs = true ∧ gcdK (natsOf xs) xs.length = 1 := by
  simp only [wB, Bool.and_eq_true, decide_eq_true_eq] at h
  exact ⟨h.1.1, h.1.2, h.2⟩
set_option maxHeartbeats 1600000 in
theorem areChances_any (xs : List Int) (n : Int) (hi : Nat) (hn : 1 ≤ n) (hn3 : n ≤ 3) (hh : hi ≤ 1000000) (a : Option Addr) (cap B : Nat) (w : World) (h : RdS w B a xs) :
    Calls Try.prog 58 #[.slice a xs.length cap, .int .i64 n, .int .i64 hi] w fun e w' => e = .returned (.bool (wB n hi xs)) ∧ Same w w' := by
  obtain ⟨b, off, hr, -⟩ := h
  by_cases hl : (xs.length : Int) = n
  · have h0 : 0 < xs.length := by omega
    have HM1 := Lib.hid (sMin_any xs a b off cap w hr h0)
    have HM2 := Lib.hid (sMax_any xs a b off cap w hr h0)
    have HV : Hid (∀ g : Bool, decide (gcdK (natsOf xs) xs.length = 1) = g → wB n hi xs = (decide (0 ≤ mnK xs (xs.length - 1)) && decide (mxK xs (xs.length - 1) ≤ (hi : Int)) && g)) := Lib.hid (fun g hg => by
      rw [allB_mm 0 hi xs h0]; simp only [wB, hl, decide_true, Bool.true_and, ← hg])
    have HG : Hid (0 ≤ mnK xs (xs.length - 1) → mxK xs (xs.length - 1) ≤ (hi : Int) → Calls Try.prog 101 #[.slice a xs.length cap] w fun e w' => e = .returned (.int .i64 (gcdK (natsOf xs) xs.length : Nat)) ∧ Same w w') := Lib.hid (fun h1 h2 => by
      have hA : allB 0 (hi : Int) xs = true := by rw [← allB_mm 0 hi xs h0]; simp [h1, h2]
      have := cDiv_any (natsOf xs) (fun j => Nat.le_trans (nats_le hi xs hA j) (by omega)) (by rw [nats_len]; omega) a b off cap w (by rw [nats_cast xs hi hA]; exact hr)
      rwa [nats_len] at this)
    have hli : ((xs.length : Int) = n) := hl
    have hlb : ((xs.length : Int) == n) = true := by simp [hl]
    clear hr
    generalize mnK xs (xs.length - 1) = m at *
    generalize mxK xs (xs.length - 1) = mm at *
    generalize gcdK (natsOf xs) xs.length = g at *
    by_cases h1 : 0 ≤ m
    · by_cases h2 : mm ≤ (hi : Int)
      · have HGG := Lib.hid (HG.out h1 h2)
        have HVV : Hid (wB n hi xs = ((g : Int) == 1)) := Lib.hid (by
          rw [HV.out _ rfl]; simp only [h1, h2, decide_true, Bool.true_and]
          rw [Bool.eq_iff_iff]; simp; omega)
        clear h0 hl hli
        go_enter Try.func58, Try.ntmps58
        go_wp2_with fail
        refine HM1.out.mono ?_
        rintro e w' ⟨rfl, rfl⟩
        go_wp2_with fail
        refine HM2.out.mono ?_
        rintro e w' ⟨rfl, rfl⟩
        go_wp2_with fail
        refine HGG.out.mono ?_
        rintro e w' ⟨rfl, hs⟩
        go_wp2_with fail
        go_ret
        exact ⟨ret_bool HVV.out.symm, hs⟩
      · have HVV : Hid (wB n hi xs = false) := Lib.hid (by
          rw [HV.out _ rfl]; simp only [h1, h2, decide_true, decide_false, Bool.true_and, Bool.false_and])
        clear h0 hl hli
        go_enter Try.func58, Try.ntmps58
        go_wp2_with fail
        refine HM1.out.mono ?_
        rintro e w' ⟨rfl, rfl⟩
        go_wp2_with fail
        refine HM2.out.mono ?_
        rintro e w' ⟨rfl, rfl⟩
        go_wp2_with fail
        go_ret
        exact ⟨ret_bool HVV.out.symm, Same.refl _⟩
    · have HVV : Hid (wB n hi xs = false) := Lib.hid (by
        rw [HV.out _ rfl]; simp only [h1, decide_false, Bool.false_and])
      clear h0 hl hli
      go_enter Try.func58, Try.ntmps58
      go_wp2_with fail
      refine HM1.out.mono ?_
      rintro e w' ⟨rfl, rfl⟩
      go_wp2_with fail
      go_ret
      exact ⟨ret_bool HVV.out.symm, Same.refl _⟩
  · have hlb : ((xs.length : Int) == n) = false := by simp [hl]
    have HVV : Hid (wB n hi xs = false) := Lib.hid (by simp [wB, hl])
    clear hl
    go_enter Try.func58, Try.ntmps58
    go_wp2_with fail
    go_ret
    exact ⟨ret_bool HVV.out.symm, Same.refl _⟩
set_option maxHeartbeats 1600000 in
theorem gmWeights_any (xs : List Int) (n : Int) (a : Option Addr) (cap B : Nat) (w : World) (h : RdS w B a xs) :
    Calls Try.prog 56 #[.slice a xs.length cap, .int .i64 n] w fun e w' => e = .returned (.bool (wB n 1000000 xs)) ∧ w = w' := by
  have HA0 := Lib.hid (l1All_rd xs a cap B 0 1000000 w h)
  obtain ⟨b, off, ⟨hm, hc⟩, -⟩ := h
  unfold maxLen at hm
  have HC := Lib.hid hc
  by_cases hl : (xs.length : Int) = n
  · have hne : ((xs.length : Int) != n) = false := by simp [hl]
    cases hA : allB 0 1000000 xs
    · have HV : Hid (wB n 1000000 xs = false) := Lib.hid (by simp [wB, hA])
      rw [hA] at HA0
      clear hA hl hc
      go_enter Try.func56, Try.ntmps56
      go_wp2_with fail
      refine HA0.out.mono ?_
      rintro e w' ⟨rfl, rfl⟩
      go_wp2_with fail
      go_ret
      exact ⟨ret_bool HV.out.symm, rfl⟩
    · have HV : Hid (wB n 1000000 xs = (((gcdK (natsOf xs) xs.length : Nat) : Int) == 1)) := Lib.hid (by
        simp only [wB, hl, hA, decide_true, Bool.true_and]; rw [Bool.eq_iff_iff]; simp; omega)
      have HN : Hid (∀ k, k < xs.length → (xs.getD k 0 = ((natsOf xs).getD k 0 : Nat))) := Lib.hid (fun k hk => by
        rw [nats_at]; have := allB_at hA k hk; omega)
      have hle := nats_le 1000000 xs hA
      have HL := Lib.hid (fun k => hle k)
      have HGL := Lib.hid (gcdK_le (natsOf xs) 1000000 hle)
      have HG : Hid (∀ k, gcdK (natsOf xs) (k + 1) = Nat.gcd ((natsOf xs).getD k 0) (gcdK (natsOf xs) k)) := Lib.hid (fun k => Nat.gcd_comm _ _)
      have HZ : Hid (gcdK (natsOf xs) 0 = 0) := Lib.hid rfl
      rw [hA] at HA0
      clear hA hl hle hc
      generalize natsOf xs = ns at *
      go_enter Try.func56, Try.ntmps56
      go_wp2_with fail
      refine HA0.out.mono ?_
      rintro e w' ⟨rfl, rfl⟩
      go_wp2_with fail
      go_loop [5, 19] (fun v5 v19 => ∃ k : Nat, k ≤ xs.length ∧ v19 = .int .i64 k ∧ v5 = .int .i64 (gcdK ns k : Nat)) (fun _ v19 => xs.length - (intOf v19).toNat)
      case atStart => exact ⟨0, by omega, rfl, by rw [HZ.out]; rfl⟩
      case round =>
        obtain ⟨k, hk, rfl, rfl⟩ := hrel
        by_cases hlt : k < xs.length
        · have hki : (k : Int) < (xs.length : Int) := by omega
          obtain ⟨ha, hcc⟩ := HC.out k hlt
          subst ha
          rw [HN.out k hlt] at hcc
          have hx := HL.out k
          have hg := HGL.out k
          have HGk := Lib.hid (HG.out k)
          generalize ns.getD k 0 = x at *
          generalize gcdK ns k = d at *
          go_wp2_with fail
          refine (gmGcd_any x d (by omega) (by omega) _).mono ?_
          rintro e w' ⟨rfl, rfl⟩
          go_wp2_with fail
          go_round
          case rel => exact ⟨k + 1, by omega, by go_num, by rw [HGk.out]⟩
          case measure => simp [intOf]; omega
        · have HK : Hid (k = xs.length) := Lib.hid (by omega)
          go_wp2_with fail
          go_ret
          exact ⟨ret_bool (by rw [HV.out, ← HK.out]), rfl⟩
  · have hne : ((xs.length : Int) != n) = true := by simp [hl]
    have HV : Hid (wB n 1000000 xs = false) := Lib.hid (by simp [wB, hl])
    clear hl hc
    go_enter Try.func56, Try.ntmps56
    go_wp2_with fail
    go_ret
    exact ⟨ret_bool HV.out.symm, rfl⟩
end Go.Proofs.Ytlkgmnmnlfaopaa
