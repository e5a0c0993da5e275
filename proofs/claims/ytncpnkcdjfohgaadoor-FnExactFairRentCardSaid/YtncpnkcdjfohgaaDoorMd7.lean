import Derived.Test.YtncpnkcdjfohgaaDoorMd6
namespace Go.Proofs.YtncpnkcdjfohgaaDoor
open Go.RowKit
set_option maxRecDepth 4000
theorem smv_congr {W W' : Nat → Nat → Int} {S : Nat → Nat} (hW : ∀ p, p < 3 → ∀ q, q < 3 → W p q = W' p q) (hS : ∀ p, p < 3 → S p < 3) : ∀ p : Nat, p ≤ 3 → smv W S p = smv W' S p
  | 0, _ => rfl
  | p + 1, hp => by
    simp only [smv]
    rw [smv_congr hW hS p (by omega), hW p (by omega) _ (hS p (by omega))]
theorem offSum_wpt {n i : Nat} {ts : List (List Int)} (h2 : n ≤ 8) (hi : i < Pr.cnt n) (hy : rowsB n 9 ts = true) (k : Nat) (hk : k < 6) (w : World) :
    Calls Tryd.prog 68 #[.agg (offA ts n i), .agg (shA k)] w fun e w' => e = .returned (.int .i64 (smv (wpt ts n i) (shS k) 3)) ∧ Below w.heap.size w w' := by
  have h := offSum_any (wof ts n i) (wof_bd h2 hi hy) k hk w
  rw [smv_congr (W := fun p q => wof ts n i (3 * p + q)) (W' := wpt ts n i) (fun p _ q hq => wof_at ts n i p q hq) (fun p hp => shS_lt k p hk hp) 3 (by omega)] at h
  exact h
set_option maxHeartbeats 1600000 in
theorem ckSum_any (cs : List (List Int)) (W : Nat → Nat → Int) (R : Rows3 cs W) (k : Nat) (hk : k < 6) (a a' : Option Addr) (cap cap' B B' : Nat) (w : World) (h : RdSS w B a cs) (h' : RdS w B' a' (shL k)) :
    Calls Tryd.prog 69 #[.slice a cs.length cap, .slice a' 3 cap'] w fun e w' => e = .returned (.int .i64 (smv W (shS k) 3)) ∧ w = w' := by
  obtain ⟨hm, b, off, hr⟩ := h
  obtain ⟨b', off', hs, -⟩ := h'
  have HR := Lib.hid hr
  have HS := Lib.hid (fun p (hp : p < 3) => hs.2 p (by show p < 3; exact hp))
  have HE := Lib.hid (fun p (hp : p < 3) => (shL_at k p hp).trans (shS_eq k p hk hp))
  have HSL := Lib.hid (fun p (hp : p < 3) => shS_lt k p hk hp)
  have HLEN := Lib.hid R.len
  have HROW := Lib.hid R.row
  have HAT := Lib.hid R.at'
  have HBD := Lib.hid R.bd
  have HSB := Lib.hid (fun p hp => smv_bd R.bd (fun p hp => shS_lt k p hk hp) p hp)
  have HSM : Hid (∀ p, smv W (shS k) (p + 1) = smv W (shS k) p + W p (shS k p)) := Lib.hid (fun _ => rfl)
  have hb3 : cs.length ≤ 3 := by rw [R.len]; omega
  clear hr hs R
  generalize shS k = S at *
  go_enter Tryd.func69, Tryd.ntmps69
  go_wp2_with fail
  go_loop [5, 10] (fun v5 v10 => ∃ p : Nat, p ≤ cs.length ∧ v10 = .int .i64 p ∧ v5 = .int .i64 (smv W S p)) (fun _ v10 => cs.length - (intOf v10).toNat)
  case atStart => exact ⟨0, Nat.zero_le _, rfl, rfl⟩
  case round =>
    obtain ⟨p, hp, rfl, rfl⟩ := hrel
    by_cases hlt : p < cs.length
    · have hp3 : p < 3 := by omega
      obtain ⟨ha, hbl, ra, rc, c1, rb, ro, hrd, -⟩ := HR.out p hlt
      subst ha
      obtain ⟨ha', c2⟩ := HS.out p hp3
      subst ha'
      rw [HE.out p hp3] at c2
      have hsl := HSL.out p hp3
      have hpi : (p : Int) < (cs.length : Int) := by omega
      have hpi3 : (p : Int) < 3 := by omega
      have hsb := HSB.out p (by omega)
      have HX := Lib.hid (HSM.out p)
      have HTL := Lib.hid (HROW.out p hp3)
      have HTA := Lib.hid (HAT.out p hp3)
      have hvb := HBD.out p hp3 (S p) hsl
      generalize S p = s at *
      generalize cs.getD p [] = t at *
      obtain ⟨hra, cs'⟩ := hrd.2 s (by rw [HTL.out]; exact hsl)
      subst hra
      have hsi : (s : Int) < (t.length : Int) := by rw [HTL.out]; omega
      rw [HTA.out s hsl] at cs'
      clear hrd
      generalize W p s = v at *
      generalize smv W S p = u at *
      go_wp2_with fail
      go_round
      case rel => exact ⟨p + 1, by omega, by go_num, by rw [HX.out]⟩
      case measure => simp [intOf]; omega
    · have hp3 : p = 3 := by have := HLEN.out; omega
      subst hp3
      go_wp2_with fail
      go_ret
      exact ⟨rfl, rfl⟩
end Go.Proofs.YtncpnkcdjfohgaaDoor
