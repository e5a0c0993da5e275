import Derived.Test.YtokhpchnnilbaaaN12
import Derived.Test.YtokhpchnnilbaaaN16
namespace Go.Proofs.Ytokhpchnnilbaaa
open Go.RowKit
set_option maxRecDepth 4000
open Go.Maps
theorem grown_below17 {w w' : World} (h : Below w.heap.size w w') (row : Option Nat) : w.grownBy w' row := ⟨h.os, h.tape, h.output, h.size, fun i hi _ => h.block i hi⟩
def hwC (s : ByteArray) (st k : Nat) : Bool := decide (2 * wcnt s st (s.size / 2) k = cnt s s.size k)
def hwB (s : ByteArray) (st : Nat) : Bool := hwC s st 0 && (hwC s st 1 && (hwC s st 2 && hwC s st 3))
def fwR (s : ByteArray) : Nat × Bool := match (List.range s.size).find? (hwB s) with | some st => (st, true) | none => (0, false)
theorem find_first (P : Nat → Bool) : ∀ (n st : Nat), st < n → P st = true → (∀ j, j < st → P j = false) → (List.range n).find? P = some st
  | 0, _, h, _, _ => by omega
  | n + 1, st, h, hp, hb => by
    rw [List.range_succ, List.find?_append]
    by_cases e : st < n
    · rw [find_first P n st e hp hb]; rfl
    · have : st = n := by omega
      subst this
      have h0 : (List.range st).find? P = none := List.find?_eq_none.2 (fun j hj => by rw [hb j (List.mem_range.1 hj)]; simp)
      rw [h0]; simp [hp]
theorem fw_some (s : ByteArray) (st : Nat) (h : st < s.size) (hp : hwB s st = true) (hb : ∀ j, j < st → hwB s j = false) : fwR s = (st, true) := by
  unfold fwR; rw [find_first _ _ st h hp hb]
theorem fw_none (s : ByteArray) (hb : ∀ j, j < s.size → hwB s j = false) : fwR s = (0, false) := by
  unfold fwR
  rw [List.find?_eq_none.2 (fun j hj => by rw [hb j (List.mem_range.1 hj)]; simp)]
theorem hw_eqC (s : ByteArray) (st : Nat) (he : evB s = true) : eqC (fun k => (wcnt s st (s.size / 2) k : Int)) (fun k => ((cnt s s.size k / 2 : Nat) : Int)) = hwB s st := by
  have h := (dv2_iff _).1 he
  have h0 := h 0 (by omega); have h1 := h 1 (by omega); have h2 := h 2 (by omega); have h3 := h 3 (by omega)
  rw [Bool.eq_iff_iff, eqC_iff]
  simp only [hwB, hwC, Bool.and_eq_true, decide_eq_true_eq]
  constructor
  · intro hh
    have a0 := hh 0 (by omega); have a1 := hh 1 (by omega); have a2 := hh 2 (by omega); have a3 := hh 3 (by omega)
    omega
  · rintro ⟨a0, a1, a2, a3⟩ k hk
    rcases (by omega : k = 0 ∨ k = 1 ∨ k = 2 ∨ k = 3) with rfl | rfl | rfl | rfl <;> omega
theorem eqC_congr {c c' d : Nat → Int} (h : ∀ k, k < 4 → c k = c' k) : eqC c d = eqC c' d := by
  simp only [eqC, h 0 (by omega), h 1 (by omega), h 2 (by omega), h 3 (by omega)]
set_option maxHeartbeats 3200000 in
theorem firstWin_any (s : ByteArray) (hg : goodS s = true) (he : evB s = true) (bh nh : Nat) (w : World) (h : IsB w bh nh (fun k => ((cnt s s.size k / 2 : Nat) : Int))) :
    Calls Try.prog 67 #[.string s, .map (some bh)] w fun e w' => e = .returned (.tuple #[.int .i64 ((fwR s).1 : Nat), .bool (fwR s).2]) ∧ Below w.heap.size w w' := by
  have h16 := (goodS_at hg).1
  have HW : Hid (∀ st, st < s.size → ∀ w, Calls Try.prog 69 #[.string s, .int .i64 st, .int .i64 ((s.size / 2 : Nat) : Int)] w fun e w' => e = .returned (.string (winT s st (s.size / 2))) ∧ w = w') := Lib.hid (fun st hst w => window_any s h16 st (s.size / 2) hst (by omega) w)
  have HB : Hid (∀ st, st < s.size → ∀ w, Calls Try.prog 46 #[.string (winT s st (s.size / 2))] w fun e w' => e = .returned (.map (some w.heap.size)) ∧ IsB w' w.heap.size 16 (fun j => (wcnt s st (s.size / 2) j : Int)) ∧ Below w.heap.size w w') := Lib.hid (fun st hst w => (beads_any (winT s st (s.size / 2)) (win_good s hg st (s.size / 2) hst (by omega)) w).mono (fun e w' ⟨h1, h2, h3⟩ => ⟨h1, h2.congr (fun k _ => by rw [win_size s st (s.size / 2) hst (by omega), wcnt_cnt s st (s.size / 2) hst (by omega) k _ (Nat.le_refl _)]), h3⟩))
  have HEQ := Lib.hid (fun st => hw_eqC s st he)
  have HSOME := Lib.hid (fw_some s)
  have HNONE := Lib.hid (fw_none s)
  have HIB := Lib.hid h
  have hbl := h.lt
  clear hg he h
  generalize hwB s = P at *
  go_enter Try.func67, Try.ntmps67
  go_wp2_with fail
  go_loopw [9] (fun v9 wr => ∃ i : Nat, i ≤ s.size ∧ v9 = .int .i64 i ∧ (∀ j, j < i → P j = false) ∧ Below w.heap.size w wr) (fun v9 _ => s.size - (intOf v9).toNat)
  case atStart => exact ⟨0, Nat.zero_le _, rfl, fun _ h => by omega, Below.refl _ _⟩
  case round =>
    obtain ⟨i, hi, rfl, hall, hb⟩ := hrel
    obtain ⟨wq, hwq⟩ : ∃ wq : World, wq = wr := ⟨_, rfl⟩
    subst hwq
    have HA := Lib.hid hall
    clear hall
    have hz := hb.size
    by_cases hlt : i < s.size
    · have hii : (i : Int) < (s.size : Int) := by omega
      have HWi := Lib.hid (HW.out i hlt)
      have HBi := Lib.hid (HB.out i hlt)
      have HEi := HEQ.out i
      have HT : Hid (P i = false → ∀ j, j < i + 1 → P j = false) := Lib.hid (fun hx j hj => by
        by_cases e : j = i
        · rw [e]; exact hx
        · exact HA.out j (by omega))
      have HS := Lib.hid (fun hp => HSOME.out i hlt hp HA.out)
      have hq : ((s.size : Int)) / 2 = ((s.size / 2 : Nat) : Int) := by omega
      have HIBq := Lib.hid (HIB.out.kept (w' := wq) ⟨hb.os, hb.tape, hb.output, hb.size, fun k hk _ => hb.block k hk⟩ (row := none) (by simp))
      rw [← hq] at HWi
      generalize winT s i (s.size / 2) = t at *
      clear hq
      go_wp2_with fail
      refine (HWi.out _).mono ?_
      rintro e w' ⟨rfl, rfl⟩
      go_wp2_with fail
      refine (HBi.out _).mono ?_
      rintro e w2 ⟨rfl, hib, hb2⟩
      have hIB2 := HIBq.out.kept (grown_below17 hb2 none) (by simp)
      have HEq := Lib.hid (mapsEqual_any _ _ _ _ _ _ w2 hib hIB2)
      rw [HEi] at HEq
      have hbw := hb.trans (hb2.mono hz)
      have hz2 := hb2.size
      clear hib hIB2 hb2
      cases hp : P i
      · rw [hp] at HEq
        have HX := Lib.hid (HT.out hp)
        clear hp HEi
        go_wp2_with fail
        refine HEq.out.mono ?_
        rintro e w3 ⟨rfl, hb3⟩
        go_wp2_with fail
        go_roundw
        case rel => exact ⟨i + 1, by omega, by go_num, HX.out, hbw.trans (hb3.mono (by omega))⟩
        case measure => simp [intOf]; omega
      · rw [hp] at HEq
        have HX := Lib.hid (HS.out hp)
        clear hp HEi
        go_wp2_with fail
        refine HEq.out.mono ?_
        rintro e w3 ⟨rfl, hb3⟩
        go_wp2_with fail
        go_returns
        exact ⟨by rw [HX.out]; rfl, hbw.trans (hb3.mono (by omega))⟩
    · have HX := Lib.hid (HNONE.out (fun j hj => HA.out j (by omega)))
      have hii : ¬ (i : Int) < (s.size : Int) := by omega
      go_wp2_with fail
      go_returns
      exact ⟨by rw [HX.out]; rfl, hb⟩
end Go.Proofs.Ytokhpchnnilbaaa
