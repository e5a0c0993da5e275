import Derived.Test.YtokhpchnnilbaaaN5
import Derived.Test.YtokhpchnnilbaaaZk
namespace Go.Proofs.Ytokhpchnnilbaaa
open Go.RowKit
set_option maxRecDepth 4000
open Go.Maps
theorem oi_four {w : World} {lo hi : Nat} {v : Value} {f : Nat → Int} (h : OI w lo hi v (iL f)) : ∃ cap b, v = .slice (some ⟨b, 0, none⟩) 4 cap ∧ (∀ k, k < 4 → w.cell? ⟨b, k, none⟩ = some (.int .i64 (f k))) ∧ lo ≤ b ∧ b < hi := by
  obtain ⟨et, ho, hh⟩ := h
  obtain ⟨-, a, cap, b, rfl, hx, hr⟩ := own_shape ho
  have e := (hr.2 0 (by simp [iL])).1
  subst e
  refine ⟨cap, b, rfl, fun k hk => ?_, (ho.lt b rfl).1, hh b rfl⟩
  have := (hr.2 k (by simp [iL]; omega)).2
  rw [Nat.zero_add] at this
  rw [this]
  rcases (by omega : k = 0 ∨ k = 1 ∨ k = 2 ∨ k = 3) with rfl | rfl | rfl | rfl <;> rfl
/-- How many of the first i numbers are not nought. -/
def pcN (f : Nat → Int) : Nat → Nat
  | 0 => 0
  | i + 1 => pcN f i + nz1 (f i)
theorem pcN_four (f : Nat → Int) : pcN f 4 = nz f := by simp only [pcN, nz]; omega
theorem pcN_le (f : Nat → Int) (i : Nat) : pcN f i ≤ i := by
  induction i with
  | zero => exact Nat.le_refl _
  | succ i ih => simp only [pcN, nz1]; split <;> omega
def cI (s : ByteArray) (k : Nat) : Int := (cnt s s.size k : Int)
theorem cI_bd (s : ByteArray) (h : s.size ≤ 16) (k : Nat) : 0 ≤ cI s k ∧ cI s k ≤ 16 := by
  have := cnt_le s s.size k
  simp only [cI]; omega
set_option maxHeartbeats 1600000 in
theorem nlKinds_any (s : ByteArray) (hg : goodS s = true) (w : World) :
    Calls Try.prog 45 #[.string s] w fun e w' => e = .returned (.int .i64 (nz (cI s) : Nat)) ∧ Below w.heap.size w w' := by
  have HG := Lib.hid (nlCounts_any s hg w)
  have HP := Lib.hid (pcN_four (cI s))
  have HLE := Lib.hid (pcN_le (cI s))
  have HB := Lib.hid (cI_bd s (goodS_at hg).1)
  have HS : Hid (∀ i, pcN (cI s) (i + 1) = pcN (cI s) i + nz1 (cI s i)) := Lib.hid (fun i => rfl)
  clear hg
  go_enter Try.func45, Try.ntmps45
  go_wp2_with fail
  refine HG.out.mono ?_
  rintro e w1 ⟨v, rfl, ho, hb⟩
  obtain ⟨cap, b, rfl, hc, -, -⟩ := oi_four (f := cI s) ho
  have HC := Lib.hid hc
  clear hc ho
  go_wp2_with fail
  go_loop [3, 9] (fun v3 v9 => ∃ i : Nat, i ≤ 4 ∧ v9 = .int .i64 i ∧ v3 = .int .i64 (pcN (cI s) i : Nat)) (fun _ v9 => 4 - (intOf v9).toNat)
  case atStart => exact ⟨0, Nat.zero_le _, rfl, rfl⟩
  case round =>
    obtain ⟨i, hi, rfl, rfl⟩ := hrel
    by_cases hlt : i < 4
    · have c1 := HC.out i hlt
      have hii : (i : Int) < 4 := by omega
      have hsi := HS.out i
      have hbd := HB.out i
      have hle := HLE.out i
      have HX := Lib.hid hsi
      clear hsi
      by_cases hz : cI s i = 0
      · rw [hz] at c1 HX
        have HY : Hid (pcN (cI s) (i + 1) = pcN (cI s) i) := Lib.hid (by rw [HX.out]; rfl)
        clear hz
        go_wp2_with fail
        go_round
        case rel => exact ⟨i + 1, by omega, by go_num, by rw [HY.out]⟩
        case measure => simp [intOf]; omega
      · have HY : Hid (pcN (cI s) (i + 1) = pcN (cI s) i + 1) := Lib.hid (by rw [HX.out]; simp [nz1, hz])
        have hp : 0 < cI s i := by omega
        have e1 : wrap64 ((pcN (cI s) i : Int) + 1) = (pcN (cI s) i : Int) + 1 := IntWalk.wrap64_in _ ⟨by omega, by omega⟩
        clear hz
        go_wp2_with fail
        go_round
        case rel => exact ⟨i + 1, by omega, by go_num, by rw [HY.out]; push_cast; rfl⟩
        case measure => simp [intOf]; omega
    · have hi4 : i = 4 := by omega
      subst hi4
      go_wp2_with fail
      go_ret
      exact ⟨ret_int (by rw [HP.out]), hb⟩
set_option maxHeartbeats 400000 in
theorem bLen (s : ByteArray) : goodS (gT s) = true := by
  cases h : goodS s
  · rw [gT_no h]; rfl
  · rw [gT_yes h]; exact h
theorem cI_none (k : Nat) : cI ⟨#[]⟩ k = 0 := rfl
theorem nz_none : nz (cI ⟨#[]⟩) = 0 := rfl
end Go.Proofs.Ytokhpchnnilbaaa
