import Derived.LoopN
import Derived.RegionTactic
import Derived.Test.YtelchpdlfedleaaS12
import Derived.Test.YtelchpdlfedleaaS0b
import Derived.Test.YtelchpdlfedleaaZa
namespace Go.Proofs.Ytelchpdlfedleaa
open Go.RowKit
set_option maxRecDepth 4000
/-- What the first i points weigh at index c. -/
def accW (W : Nat → Int) (P : Nat → Nat → Int) : Nat → Nat → Int
  | 0, _ => 0
  | i + 1, c => accW W P i c + W i * P i c
def sumW (W : Nat → Int) : Nat → Int
  | 0 => 0
  | i + 1 => sumW W i + W i
def mxr (W : Nat → Int) (P : Nat → Nat → Int) (i k : Nat) : List Int := [accW W P (if 0 < k then i + 1 else i) 0, accW W P (if 1 < k then i + 1 else i) 1, accW W P (if 2 < k then i + 1 else i) 2, sumW W i]
theorem mxr_len (W : Nat → Int) (P : Nat → Nat → Int) (i k : Nat) : (mxr W P i k).length = 4 := rfl
theorem mxr_zero (W : Nat → Int) (P : Nat → Nat → Int) : mxr W P 0 0 = [0, 0, 0, 0] := rfl
theorem mxr_at (W : Nat → Int) (P : Nat → Nat → Int) (i k : Nat) (hk : k < 3) : (mxr W P i k).getD k 0 = accW W P i k := by
  rcases (by omega : k = 0 ∨ k = 1 ∨ k = 2) with rfl | rfl | rfl <;> rfl
theorem mxr_set (W : Nat → Int) (P : Nat → Nat → Int) (i k : Nat) (hk : k < 3) : (mxr W P i k).set k (accW W P i k + W i * P i k) = mxr W P i (k + 1) := by
  rcases (by omega : k = 0 ∨ k = 1 ∨ k = 2) with rfl | rfl | rfl <;> rfl
theorem mxr_sum (W : Nat → Int) (P : Nat → Nat → Int) (i : Nat) : (mxr W P i 3).getD 3 0 = sumW W i := rfl
theorem mxr_end (W : Nat → Int) (P : Nat → Nat → Int) (i : Nat) : (mxr W P i 3).set 3 (sumW W i + W i) = mxr W P (i + 1) 0 := rfl
/-- Weights and points are small. -/
def Small3 (W : Nat → Int) (P : Nat → Nat → Int) : Prop := ∀ i, i < 3 → (0 ≤ W i ∧ W i ≤ 1000000) ∧ ∀ k, k < 3 → 0 ≤ P i k ∧ P i k ≤ 15
theorem prod_bd {a b : Int} (h0 : 0 ≤ a) (h1 : a ≤ 1000000) (h2 : 0 ≤ b) (h3 : b ≤ 15) : 0 ≤ a * b ∧ a * b ≤ 15000000 :=
  ⟨Int.mul_nonneg h0 h2, Int.le_trans (Int.mul_le_mul h1 h3 h2 (by omega)) (by omega)⟩
theorem acc_bd {W : Nat → Int} {P : Nat → Nat → Int} (h : Small3 W P) (k : Nat) (hk : k < 3) : ∀ i, i ≤ 3 → 0 ≤ accW W P i k ∧ accW W P i k ≤ 15000000 * i
  | 0, _ => ⟨Int.le_refl _, by simp [accW]⟩
  | i + 1, hi => by
    obtain ⟨h0, h1⟩ := acc_bd h k hk i (by omega)
    obtain ⟨⟨w0, w1⟩, hp⟩ := h i (by omega)
    obtain ⟨p0, p1⟩ := hp k hk
    obtain ⟨m0, m1⟩ := prod_bd w0 w1 p0 p1
    have e : accW W P (i + 1) k = accW W P i k + W i * P i k := rfl
    omega
theorem sum_bd {W : Nat → Int} {P : Nat → Nat → Int} (h : Small3 W P) : ∀ i, i ≤ 3 → 0 ≤ sumW W i ∧ sumW W i ≤ 1000000 * i
  | 0, _ => ⟨Int.le_refl _, by simp [sumW]⟩
  | i + 1, hi => by
    obtain ⟨h0, h1⟩ := sum_bd h i (by omega)
    obtain ⟨⟨w0, w1⟩, -⟩ := h i (by omega)
    have e : sumW W (i + 1) = sumW W i + W i := rfl
    omega
theorem own4_at {w : World} {base g : Nat} {L : List Int} (h : w.ownsRow base 3 1 (.slice (some ⟨g, 0, none⟩) 4 4) 4 (L.map (Value.int .i64))) (k : Nat) (hk : k < 4) (hL : L.length = 4) : w.cell? ⟨g, k, none⟩ = some (.int .i64 (L.getD k 0)) := by
  rw [h.cellAt k (by omega), List.getElem?_map, List.getElem?_eq_getElem (by omega), List.getD_eq_getElem?_getD, List.getElem?_eq_getElem (by omega)]
  rfl
theorem own4_put {w : World} {base g : Nat} {L : List Int} (h : w.ownsRow base 3 1 (.slice (some ⟨g, 0, none⟩) 4 4) 4 (L.map (Value.int .i64))) (k : Nat) (x : Int) : (w.setCell ⟨g, k, none⟩ (.int .i64 x)).ownsRow base 3 1 (.slice (some ⟨g, 0, none⟩) 4 4) 4 ((L.set k x).map (Value.int .i64)) := by
  rw [List.map_set]
  exact (h.stored k (.int .i64 x)).1
/-- A given list as weights. -/
def gvB (xs : List Int) : Bool := decide (xs.length = 3) && (allB 0 1000000 xs && decide (0 < xs.getD 0 0 + xs.getD 1 0 + xs.getD 2 0))
def wf (xs : List Int) (i : Nat) : Int := xs.getD i 0
theorem gvB_yes {xs : List Int} (h : gvB xs = true) : xs.length = 3 ∧ (∀ i, i < 3 → 0 ≤ wf xs i ∧ wf xs i ≤ 1000000) ∧ 0 < wf xs 0 + wf xs 1 + wf xs 2 := by
  simp only [gvB, Bool.and_eq_true, decide_eq_true_eq] at h
  exact ⟨h.1, fun i hi => allB_at h.2.1 i (by omega), h.2.2⟩
set_option maxHeartbeats 800000 in
theorem fxGiven_any (p : List Int) (a : Option Addr) (cap B : Nat) (w : World) (h : RdS w B a p) :
    Calls Try.prog 76 #[.slice a p.length cap] w fun e w' => e = .returned (.bool (gvB p)) ∧ Same w w' := by
  have hall : ∀ m, Calls Try.prog 113 #[.slice a p.length cap, .int .i64 0, .int .i64 1000000] (w.drewN m) fun e w' => e = .returned (.bool (allB 0 1000000 p)) ∧ w.drewN m = w' := fun m => l1All_rd p a cap B 0 1000000 _ (rds_same h ((Same.refl w).drewN m))
  obtain ⟨b, off, hr, -⟩ := h
  by_cases hl : p.length = 3
  · have hne : ((p.length : Int) == 3) = true := by rw [hl]; rfl
    cases hA : allB 0 1000000 p
    · have HF : Hid (gvB p = false) := Lib.hid (by simp [gvB, hA])
      rw [hA] at hall
      have HAll := Lib.hid hall
      clear hall hA hr hl
      go_enter Try.func76, Try.ntmps76
      go_wp2_with fail
      go_quiet (first | (go_at_call 113; exact Calls.quiet_of_same (flip (HAll.out _))))
      go_wp2
      go_ret
      exact ⟨ret_bool HF.out.symm, (Same.refl _).drewN _⟩
    · have HV : Hid (gvB p = decide (0 < p.getD 0 0 + p.getD 1 0 + p.getD 2 0)) := Lib.hid (by simp [gvB, hA, hl])
      rw [hA] at hall
      have HAll := Lib.hid hall
      obtain ⟨ha, c0⟩ := hr.2 0 (by omega)
      obtain ⟨-, c1⟩ := hr.2 1 (by omega)
      obtain ⟨-, c2⟩ := hr.2 2 (by omega)
      have b0 := allB_at hA 0 (by omega)
      have b1 := allB_at hA 1 (by omega)
      have b2 := allB_at hA 2 (by omega)
      rw [Nat.add_zero] at c0
      subst ha
      rw [hl] at HAll ⊢
      clear hall hA hr hl hne
      generalize p.getD 0 0 = x at *
      generalize p.getD 1 0 = y at *
      generalize p.getD 2 0 = z at *
      go_enter Try.func76, Try.ntmps76
      go_wp2_with fail
      go_quiet (first | (go_at_call 113; exact Calls.quiet_of_same (flip (HAll.out _))))
      go_wp2
      go_ret
      exact ⟨ret_bool HV.out.symm, (Same.refl _).drewN _⟩
  · have hne : ((p.length : Int) == 3) = false := by simp; omega
    have HF : Hid (gvB p = false) := Lib.hid (by simp [gvB, hl])
    clear hall hr hl
    go_enter Try.func76, Try.ntmps76
    go_wp2_with fail
    go_quiet (fail)
    go_wp2
    go_ret
    exact ⟨ret_bool HF.out.symm, (Same.refl _).drewN _⟩
end Go.Proofs.Ytelchpdlfedleaa
