import Derived.Test.YtcahecohjmahaaaDoorNa
import Derived.Test.YtcahecohjmahaaaDoorLof
import Derived.Test.YtcahecohjmahaaaDoorMl
namespace Go.Proofs.YtcahecohjmahaaaDoor
open Go.RowKit
set_option maxRecDepth 4000
/-- The text of the first labels: a / ahead of each row but the first. -/
def sepC (k : Nat) : List UInt8 := if 0 < k ∧ Pr.C k = 0 then [47] else []
def txL (xs : List Int) : Nat → List UInt8
  | 0 => []
  | k + 1 => txL xs k ++ sepC k ++ [dgt (xs.getD k 0)]
theorem sepC_len (k : Nat) : (sepC k).length ≤ 1 := by unfold sepC; split <;> simp
theorem txL_len (xs : List Int) : ∀ k, (txL xs k).length ≤ 2 * k
  | 0 => Nat.le_refl _
  | k + 1 => by
    have := txL_len xs k
    have := sepC_len k
    simp only [txL, List.length_append, List.length_cons, List.length_nil]
    omega
def hdL (n : Nat) : List UInt8 := [dgt (n : Int), 58]
/-- The text within a row. -/
def inL (xs : List Int) (r k : Nat) : List UInt8 := if k = 0 then txL xs (Pr.T r) ++ sepC (Pr.T r) else txL xs (Pr.T r + k)
theorem T_pos (r : Nat) (h : 0 < r) : 0 < Pr.T r := by
  obtain ⟨q, rfl⟩ : ∃ q, r = q + 1 := ⟨r - 1, by omega⟩
  rw [Pr.T_succ]; omega
theorem inL_zero (xs : List Int) (r : Nat) (h : r < 9) : inL xs r 0 = txL xs (Pr.T r) ++ (if 0 < r then [47] else []) := by
  unfold inL
  rw [if_pos rfl]
  congr 1
  unfold sepC
  have h45 := Pr.T_le r (by omega)
  by_cases hr : 0 < r
  · have hp := T_pos r hr
    have h9 : Pr.T r < 45 := by
      have := Pr.T_le (r + 1) (by omega)
      rw [Pr.T_succ] at this
      omega
    have hc := (Pr.RC_end (Pr.T r) r h9 (Nat.le_refl _) (by omega)).2
    rw [if_pos hr, if_pos ⟨hp, by omega⟩]
  · have h0 : r = 0 := by omega
    subst h0
    rfl
theorem inL_step (xs : List Int) (r k : Nat) (h : r < 9) (hk : k ≤ r) : inL xs r (k + 1) = inL xs r k ++ [dgt (xs.getD (Pr.T r + k) 0)] := by
  have h9 : Pr.T r + k < 45 := by
    have := Pr.T_le (r + 1) (by omega)
    rw [Pr.T_succ] at this
    omega
  unfold inL
  rw [if_neg (by omega)]
  show txL xs (Pr.T r + k + 1) = _
  rw [txL]
  by_cases hk0 : k = 0
  · subst hk0
    rw [if_pos rfl]
    rfl
  · have hc := (Pr.RC_end (Pr.T r + k) r h9 (by omega) (by omega)).2
    rw [if_neg hk0, show sepC (Pr.T r + k) = [] from by unfold sepC; rw [if_neg (by omega)], List.append_nil]
theorem inL_end (xs : List Int) (r : Nat) : inL xs r (r + 1) = txL xs (Pr.T (r + 1)) := by
  unfold inL
  rw [if_neg (by omega), Pr.T_succ]
theorem inL_len (xs : List Int) (r k : Nat) (h : r < 9) (hk : k ≤ r + 1) : (inL xs r k).length ≤ 100 := by
  have h45 : Pr.T r + k ≤ 45 := by
    have := Pr.T_le (r + 1) (by omega)
    rw [Pr.T_succ] at this
    omega
  unfold inL
  split
  · have := txL_len xs (Pr.T r)
    have := sepC_len (Pr.T r)
    rw [List.length_append]
    omega
  · have := txL_len xs (Pr.T r + k)
    omega
theorem vint2 {a b : Int} (h : a = b) : Value.int .i64 a = .int .i64 b := by rw [h]
set_option maxHeartbeats 1600000 in
theorem meText_any (n : Nat) (xs : List Int) (a : Option Addr) (b len cap : Nat) (w : World) (h1 : 1 ≤ n) (h2 : n ≤ 8) (hn : xs.length = len) (hl : len = Pr.cnt n) (h : Rd w a b 0 xs) (hb0 : len = 0 ∨ b < w.heap.size) (hA : allB 0 2 xs = true) :
    Calls Tryd.prog 78 #[.int .i64 n, .slice a len cap] w fun e w' => e = .returned (.string ⟨(hdL n ++ txL xs (Pr.cnt n)).toArray⟩) ∧ Below w.heap.size w w' := by
  have HRD := Lib.hid (fun w' (hb : Below w.heap.size w w') => h.later hn hb0 hb)
  have HN := Lib.hid hn
  have HL := Lib.hid hl
  have HA := Lib.hid hA
  have HN1 := Lib.hid (l1Num_dig (n : Int) (by omega) (by omega) w)
  have HCN : Hid (Pr.cnt n = Pr.T (n + 1)) := Lib.hid rfl
  have HT0 : Hid (hdL n = [dgt (n : Int), 58]) := Lib.hid rfl
  have hcl := (Pr.cnt_le n (by omega)).1
  have hs58 : (⟨#[dgt (n : Int)]⟩ : ByteArray).size = 1 := rfl
  clear h hb0 hn hA hl
  go_enter Tryd.func78, Tryd.ntmps78
  go_wp2_with fail
  refine HN1.out.mono ?_
  rintro e w1 ⟨rfl, hb1⟩
  go_wp2_with fail
  go_loopw [5, 6, 7] (fun v5 v6 v7 wr => ∃ r : Nat, r ≤ n + 1 ∧ v7 = .int .i64 r ∧ v6 = .int .i64 (Pr.T r : Nat) ∧ v5 = .string ⟨(hdL n ++ txL xs (Pr.T r)).toArray⟩ ∧ Below w.heap.size w wr) (fun _ _ v7 _ => n + 1 - (intOf v7).toNat)
  case atStart => exact ⟨0, Nat.zero_le _, rfl, rfl, by rw [HT0.out]; rfl, hb1⟩
  case round =>
    clear hb1
    obtain ⟨r, hr, rfl, rfl, rfl, hB⟩ := hrel
    obtain ⟨wo, hwo⟩ : ∃ wo : World, wo = wr := ⟨_, rfl⟩
    subst hwo
    by_cases hlt : r < n + 1
    · have hle : (r : Int) ≤ (n : Int) := by omega
      have HI0 := Lib.hid (inL_zero xs r (by omega))
      have HIS := Lib.hid (fun k hk => inL_step xs r k (by omega) hk)
      have HIE := Lib.hid (inL_end xs r)
      have HIL := Lib.hid (fun k hk => inL_len xs r k (by omega) hk)
      have HTS := Lib.hid (Pr.T_succ r)
      have htl := txL_len xs (Pr.T r)
      have hT45 := Pr.T_le (r + 1) (by omega)
      rw [Pr.T_succ] at hT45
      have hTc : Pr.T r + r < Pr.cnt n := by
        have e : Pr.T (r + 1) ≤ Pr.T (n + 1) := by
          have go : ∀ d, Pr.T (r + 1) ≤ Pr.T (r + 1 + d) := by
            intro d
            induction d with
            | zero => exact Nat.le_refl _
            | succ d ih => exact Nat.le_trans ih (Nat.le_of_lt (Pr.T_mono_one _))
          have := go (n - r)
          rwa [show r + 1 + (n - r) = n + 1 by omega] at this
        rw [Pr.T_succ] at e
        have := HCN.out
        omega
      have HH : Hid ((hdL n).length = 2) := Lib.hid rfl
      generalize Pr.T r = t at *
      obtain ⟨S, hS⟩ : ∃ S, S = hdL n ++ txL xs t := ⟨_, rfl⟩
      have hsl : S.length ≤ 102 := by rw [hS, List.length_append]; have := HH.out; omega
      have hss : (⟨S.toArray⟩ : ByteArray).size = S.length := by simp [ByteArray.size]
      have h47 : (⟨#[47]⟩ : ByteArray).size = 1 := rfl
      rw [← hS]
      by_cases hr0 : 0 < r
      · have hri : (0 : Int) < (r : Int) := by omega
        have hrd : decide (0 < r) = true := by simpa using hr0
        have HI1 : Hid (hdL n ++ inL xs r 0 = S ++ [47]) := Lib.hid (by rw [HI0.out, if_pos hr0, hS, List.append_assoc])
        clear hr0 hS
        go_wp2_with fail
        generalize hZ : (⟨S.toArray⟩ : ByteArray) ++ ⟨#[47]⟩ = Z
        have HZ := Lib.hid hZ
        clear hZ
        go_loopw [5, 6, 8] (fun v5 v6 v8 wr => ∃ k : Nat, k ≤ r + 1 ∧ v8 = .int .i64 k ∧ v6 = .int .i64 ((t + k : Nat) : Int) ∧ v5 = .string ⟨(hdL n ++ inL xs r k).toArray⟩ ∧ Below w.heap.size w wr) (fun _ _ v8 _ => r + 1 - (intOf v8).toNat)
        case atStart => exact ⟨0, Nat.zero_le _, rfl, rfl, by rw [HI1.out, ← HZ.out, ← str_app], hB⟩
        case round =>
          clear hB
          obtain ⟨k, hk, rfl, rfl, rfl, hB⟩ := hrel
          obtain ⟨wi, hwi⟩ : ∃ wi : World, wi = wr := ⟨_, rfl⟩
          subst hwi
          by_cases hltk : k < r + 1
          · have hki : (k : Int) ≤ (r : Int) := by omega
            have HST := Lib.hid (HIS.out k (by omega))
            have hil := HIL.out k (by omega)
            have hhl := HH.out
            obtain ⟨j, hj⟩ : ∃ j, t + k = j := ⟨_, rfl⟩
            have HJ := Lib.hid hj
            rw [hj] at HST ⊢
            have hjl : j < len := by have := HL.out; omega
            obtain ⟨rfl, c⟩ := (HRD.out wi hB).2 j (by rw [HN.out]; exact hjl)
            obtain ⟨l0, l2⟩ := allB_at HA.out j (by rw [HN.out]; exact hjl)
            rw [Nat.zero_add] at c
            have hji : (j : Int) < (len : Int) := by omega
            have hj45 : (j : Int) ≤ 45 := by omega
            generalize xs.getD j 0 = x at c l0 l2 HST
            have HX := Lib.hid (fun w' => l1Num_dig x l0 (by omega) w')
            obtain ⟨U, hU⟩ : ∃ U, U = hdL n ++ inL xs r k := ⟨_, rfl⟩
            have hul : U.length ≤ 102 := by rw [hU, List.length_append]; omega
            have HUS : Hid (hdL n ++ inL xs r (k + 1) = U ++ [dgt x]) := Lib.hid (by rw [HST.out, hU, List.append_assoc])
            have hus : (⟨U.toArray⟩ : ByteArray).size = U.length := by simp [ByteArray.size]
            have hd1 : (⟨#[dgt x]⟩ : ByteArray).size = 1 := rfl
            rw [← hU]
            clear hU hj hil hhl
            go_wp2_with fail
            refine (HX.out wi).mono ?_
            rintro e' w2 ⟨rfl, hb2⟩
            go_wp2_with fail
            go_roundw
            case rel => exact ⟨k + 1, by omega, by go_num, vint2 (by have := HJ.out; omega), by rw [HUS.out, ← str_app], bnext hB hb2⟩
            case measure => simp [intOf]; omega
          · have hk2 : k = r + 1 := by omega
            have hnk : ¬ (k : Int) ≤ (r : Int) := by omega
            rw [hk2, HIE.out]
            clear hk2
            go_wp2_with fail
            go_roundw
            case rel => exact ⟨r + 1, by omega, by go_num, vint2 (by rw [HTS.out]), rfl, hB⟩
            case measure => simp [intOf]; omega
      · have hri : ¬ (0 : Int) < (r : Int) := by omega
        have HI1 : Hid (hdL n ++ inL xs r 0 = S) := Lib.hid (by rw [HI0.out, if_neg hr0, hS, List.append_nil])
        clear hr0 hS
        go_wp2_with fail
        go_loopw [5, 6, 8] (fun v5 v6 v8 wr => ∃ k : Nat, k ≤ r + 1 ∧ v8 = .int .i64 k ∧ v6 = .int .i64 ((t + k : Nat) : Int) ∧ v5 = .string ⟨(hdL n ++ inL xs r k).toArray⟩ ∧ Below w.heap.size w wr) (fun _ _ v8 _ => r + 1 - (intOf v8).toNat)
        case atStart => exact ⟨0, Nat.zero_le _, rfl, rfl, by rw [HI1.out], hB⟩
        case round =>
          clear hB
          obtain ⟨k, hk, rfl, rfl, rfl, hB⟩ := hrel
          obtain ⟨wi, hwi⟩ : ∃ wi : World, wi = wr := ⟨_, rfl⟩
          subst hwi
          by_cases hltk : k < r + 1
          · have hki : (k : Int) ≤ (r : Int) := by omega
            have HST := Lib.hid (HIS.out k (by omega))
            have hil := HIL.out k (by omega)
            have hhl := HH.out
            obtain ⟨j, hj⟩ : ∃ j, t + k = j := ⟨_, rfl⟩
            have HJ := Lib.hid hj
            rw [hj] at HST ⊢
            have hjl : j < len := by have := HL.out; omega
            obtain ⟨rfl, c⟩ := (HRD.out wi hB).2 j (by rw [HN.out]; exact hjl)
            obtain ⟨l0, l2⟩ := allB_at HA.out j (by rw [HN.out]; exact hjl)
            rw [Nat.zero_add] at c
            have hji : (j : Int) < (len : Int) := by omega
            have hj45 : (j : Int) ≤ 45 := by omega
            generalize xs.getD j 0 = x at c l0 l2 HST
            have HX := Lib.hid (fun w' => l1Num_dig x l0 (by omega) w')
            obtain ⟨U, hU⟩ : ∃ U, U = hdL n ++ inL xs r k := ⟨_, rfl⟩
            have hul : U.length ≤ 102 := by rw [hU, List.length_append]; omega
            have HUS : Hid (hdL n ++ inL xs r (k + 1) = U ++ [dgt x]) := Lib.hid (by rw [HST.out, hU, List.append_assoc])
            have hus : (⟨U.toArray⟩ : ByteArray).size = U.length := by simp [ByteArray.size]
            have hd1 : (⟨#[dgt x]⟩ : ByteArray).size = 1 := rfl
            rw [← hU]
            clear hU hj hil hhl
            go_wp2_with fail
            refine (HX.out wi).mono ?_
            rintro e' w2 ⟨rfl, hb2⟩
            go_wp2_with fail
            go_roundw
            case rel => exact ⟨k + 1, by omega, by go_num, vint2 (by have := HJ.out; omega), by rw [HUS.out, ← str_app], bnext hB hb2⟩
            case measure => simp [intOf]; omega
          · have hk2 : k = r + 1 := by omega
            have hnk : ¬ (k : Int) ≤ (r : Int) := by omega
            rw [hk2, HIE.out]
            clear hk2
            go_wp2_with fail
            go_roundw
            case rel => exact ⟨r + 1, by omega, by go_num, vint2 (by rw [HTS.out]), rfl, hB⟩
            case measure => simp [intOf]; omega
    · have hr2 : r = n + 1 := by omega
      have hnr : ¬ (r : Int) ≤ (n : Int) := by omega
      rw [hr2, ← HCN.out]
      clear hr2
      go_wp2_with fail
      go_ret
      exact ⟨rfl, hB⟩
end Go.Proofs.YtcahecohjmahaaaDoor
