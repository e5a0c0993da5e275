import Derived.Test.YtokhpchnnilbaaaN8
namespace Go.Proofs.Ytokhpchnnilbaaa
open Go.RowKit
set_option maxRecDepth 4000
open Go.Maps
def cutV (s : ByteArray) (cuts : List Int) : Bool := goodS s && cutsB s.size cuts
def cT (s : ByteArray) (cuts : List Int) : ByteArray := if cutV s cuts = true then s else ⟨#[]⟩
theorem cT_yes {s : ByteArray} {cuts : List Int} (h : cutV s cuts = true) : cT s cuts = s := by simp [cT, h]
theorem cT_no {s : ByteArray} {cuts : List Int} (h : cutV s cuts = false) : cT s cuts = ⟨#[]⟩ := by simp [cT, h]
set_option maxHeartbeats 800000 in
theorem cutNeck_any (s : ByteArray) (cuts : List Int) (a : Option Addr) (cap B : Nat) (w : World) (h : RdS w B a cuts) :
    Calls Try.prog 51 #[.string s, .slice a cuts.length cap] w fun e w' => e = .returned (.tuple #[.string (cT s cuts), .bool (cutV s cuts)]) ∧ w = w' := by
  have HG := Lib.hid (neckOf_any s w)
  have HC := Lib.hid (areCuts_any s cuts a cap B w h)
  cases hg : goodS s
  · have HV : Hid (cutV s cuts = false) := Lib.hid (by simp [cutV, hg])
    have HT := Lib.hid (cT_no HV.out)
    rw [hg, gT_no hg] at HG
    rw [HV.out, HT.out]
    clear hg
    go_enter Try.func51, Try.ntmps51
    go_wp2_with fail
    refine HG.out.mono ?_
    rintro e w' ⟨rfl, rfl⟩
    go_wp2_with fail
    go_returns
    exact ⟨rfl, rfl⟩
  · cases hc : cutsB s.size cuts
    · have HV : Hid (cutV s cuts = false) := Lib.hid (by simp [cutV, hc])
      have HT := Lib.hid (cT_no HV.out)
      rw [hg, gT_yes hg] at HG
      rw [hc] at HC
      rw [HV.out, HT.out]
      clear hg hc
      go_enter Try.func51, Try.ntmps51
      go_wp2_with fail
      refine HG.out.mono ?_
      rintro e w' ⟨rfl, rfl⟩
      go_wp2_with fail
      refine HC.out.mono ?_
      rintro e w' ⟨rfl, rfl⟩
      go_wp2_with fail
      go_returns
      exact ⟨rfl, rfl⟩
    · have HV : Hid (cutV s cuts = true) := Lib.hid (by simp [cutV, hc, hg])
      have HT := Lib.hid (cT_yes HV.out)
      rw [hg, gT_yes hg] at HG
      rw [hc] at HC
      rw [HV.out, HT.out]
      clear hg hc
      go_enter Try.func51, Try.ntmps51
      go_wp2_with fail
      refine HG.out.mono ?_
      rintro e w' ⟨rfl, rfl⟩
      go_wp2_with fail
      refine HC.out.mono ?_
      rintro e w' ⟨rfl, rfl⟩
      go_wp2_with fail
      go_returns
      exact ⟨rfl, rfl⟩
set_option maxHeartbeats 800000 in
theorem nlCuts_any (s : ByteArray) (cuts : List Int) (a : Option Addr) (cap B : Nat) (w : World) (h : RdS w B a cuts) :
    Calls Try.prog 49 #[.string s, .slice a cuts.length cap] w fun e w' => e = .returned (.bool (cutV s cuts)) ∧ Same w w' := by
  have HG := Lib.hid (nlGood_any s w)
  cases hg : goodS s
  · have HV : Hid (cutV s cuts = false) := Lib.hid (by simp [cutV, hg])
    rw [hg] at HG
    rw [HV.out]
    clear hg
    go_enter Try.func49, Try.ntmps49
    go_wp2_with fail
    refine HG.out.mono ?_
    rintro e w' ⟨rfl, rfl⟩
    go_wp2_with fail
    go_ret
    exact ⟨rfl, Same.refl _⟩
  · have hs := (goodS_at hg).1
    have HR := Lib.hid (rising_any s.size (by omega) cuts a cap B w h)
    have HV : Hid (cutV s cuts = cutsB s.size cuts) := Lib.hid (by simp [cutV, hg])
    have ew : wrap64 ((s.size : Int) - 1) = (s.size : Int) - 1 := IntWalk.wrap64_in _ ⟨by omega, by omega⟩
    rw [hg] at HG
    rw [HV.out]
    clear hg
    go_enter Try.func49, Try.ntmps49
    go_wp2_with fail
    refine HG.out.mono ?_
    rintro e w' ⟨rfl, rfl⟩
    go_wp2_with fail
    refine HR.out.mono ?_
    rintro e w1 ⟨rfl, hs1⟩
    go_wp2_with fail
    go_ret
    exact ⟨rfl, hs1⟩
/-- What the first thief has of kind k among the first m beads. -/
def shC (s : ByteArray) (cuts : List Int) : Nat → Nat → Nat
  | 0, _ => 0
  | m + 1, k => shC s cuts m k + if sg cuts (m + 1) = 1 ∧ kd s m = k then 1 else 0
/-- How many more he has than the other one. -/
def lfC (s : ByteArray) (cuts : List Int) : Nat → Nat → Int
  | 0, _ => 0
  | m + 1, k => lfC s cuts m k + if kd s m = k then sg cuts (m + 1) else 0
theorem lf_sh (s : ByteArray) (cuts : List Int) (m k : Nat) : lfC s cuts m k = 2 * (shC s cuts m k : Int) - (cnt s m k : Int) := by
  induction m with
  | zero => rfl
  | succ m ih =>
    simp only [lfC, shC, cnt, ih]
    rcases sg_bd cuts (m + 1) with e | e <;> rw [e] <;> by_cases h : kd s m = k <;> simp [h] <;> omega
theorem sh_le (s : ByteArray) (cuts : List Int) (m k : Nat) : shC s cuts m k ≤ cnt s m k := by
  induction m with
  | zero => exact Nat.le_refl _
  | succ m ih =>
    simp only [shC, cnt]
    by_cases h : kd s m = k
    · by_cases e : sg cuts (m + 1) = 1 <;> simp [h, e] <;> omega
    · simp [h]; omega
def fairB (s : ByteArray) (cuts : List Int) : Bool := (List.range 4).all (fun k => decide (2 * shC s cuts s.size k = cnt s s.size k))
theorem fair_nz (s : ByteArray) (cuts : List Int) : (nz (lfC s cuts s.size) == 0) = fairB s cuts := by
  have e : ∀ k, lfC s cuts s.size k = 2 * (shC s cuts s.size k : Int) - (cnt s s.size k : Int) := lf_sh s cuts s.size
  rw [Bool.eq_iff_iff]
  simp only [fairB, List.all_eq_true, List.mem_range, decide_eq_true_eq, beq_iff_eq, nz, nz1, e]
  constructor
  · intro h k hk
    rcases (by omega : k = 0 ∨ k = 1 ∨ k = 2 ∨ k = 3) with rfl | rfl | rfl | rfl <;> split at h <;> split at h <;> split at h <;> split at h <;> omega
  · intro h
    have h0 := h 0 (by omega); have h1 := h 1 (by omega); have h2 := h 2 (by omega); have h3 := h 3 (by omega)
    rw [if_pos (by omega), if_pos (by omega), if_pos (by omega), if_pos (by omega)]
theorem sh_upd (s : ByteArray) (cuts : List Int) (i k : Nat) (hk : kd s i = k) (hs : sg cuts (i + 1) = 1) (j : Nat) : ((shC s cuts (i + 1) j : Nat) : Int) = upd (fun j => (shC s cuts i j : Int)) k 1 j := by
  simp only [shC, upd, stc, hk, hs]
  by_cases e : j = k
  · subst e; simp
  · have : ¬ k = j := fun h => e h.symm
    simp [e, this]
theorem sh_stay (s : ByteArray) (cuts : List Int) (i : Nat) (hs : sg cuts (i + 1) = -1) (j : Nat) : shC s cuts (i + 1) j = shC s cuts i j := by
  simp [shC, hs]
theorem lf_upd (s : ByteArray) (cuts : List Int) (i k : Nat) (hk : kd s i = k) (j : Nat) : lfC s cuts (i + 1) j = upd (lfC s cuts i) k (sg cuts (i + 1)) j := by
  simp only [lfC, upd, stc, hk]
  by_cases e : j = k
  · subst e; simp
  · have : ¬ k = j := fun h => e h.symm
    simp [e, this]
theorem lf_bd (s : ByteArray) (cuts : List Int) (m k : Nat) : -(m : Int) ≤ lfC s cuts m k ∧ lfC s cuts m k ≤ m := by
  have h1 := lf_sh s cuts m k
  have h2 := sh_le s cuts m k
  have h3 := cnt_le s m k
  omega
end Go.Proofs.Ytokhpchnnilbaaa
