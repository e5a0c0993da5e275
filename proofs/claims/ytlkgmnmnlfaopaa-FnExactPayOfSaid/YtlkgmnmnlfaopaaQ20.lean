import Derived.LoopN
import Derived.BigRegion
import Derived.BigQuiet
import Derived.Test.YtlkgmnmnlfaopaaQ19
namespace Go.Proofs.Ytlkgmnmnlfaopaa
open Go.RowKit
set_option maxRecDepth 4000
/-- Whether there are a game and weights for both players. -/
def ieB (gr gc : List (List Int)) (x y : List Int) (hi : Int) : Bool := gameB gr gc && (wB gr.length hi x && wB (gr.getD 0 []).length hi y)
theorem ieB_yes {gr gc : List (List Int)} {x y : List Int} {hi : Int} (h : ieB gr gc x y hi = true) : gameB gr gc = true ∧ wB gr.length hi x = true ∧ wB (gr.getD 0 []).length hi y = true := by
  simp only [ieB, Bool.and_eq_true] at h
  exact ⟨h.1, h.2.1, h.2.2⟩
set_option maxHeartbeats 3200000 in
theorem gmBoth_any (gr gc : List (List Int)) (x y : List Int) (ar ac ax ay : Option Addr) (cr cc cx cy B : Nat) (w : World) (hr : RdSS w B ar gr) (hc : RdSS w B ac gc) (hx : RdS w B ax x) (hy : RdS w B ay y) (hB : B ≤ w.heap.size) :
    Calls Try.prog 65 #[.agg #[.slice ar gr.length cr, .slice ac gc.length cc], .slice ax x.length cx, .slice ay y.length cy] w fun e w' => e = .returned (.bool (ieB gr gc x y 1000000)) ∧ Below w.heap.size w w' := by
  obtain ⟨w1, hw1⟩ : ∃ w1, w1 = (w.alloc (.cells #[.slice ar gr.length cr, .slice ac gc.length cc] 27)) := ⟨_, rfl⟩
  have hb1 : Below w.heap.size w w1 := by rw [hw1]; exact balloc (Below.refl w.heap.size w) _
  have hz1 := hb1.size
  have g1 : w1.heap[w.heap.size]? = some (.cells #[.slice ar gr.length cr, .slice ac gc.length cc] 27 (0, 0)) := by rw [hw1]; exact heap_alloc_new w _
  have c0 := blk_cell g1 0 _ rfl
  have c1 := blk_cell g1 1 _ rfl
  have hr1 := rdss_chg hr (chg_below hb1) hB (.inr rfl)
  have hc1 := rdss_chg hc (chg_below hb1) hB (.inr rfl)
  have hx1 := rds_chg hx (chg_below hb1) hB (.inr rfl)
  have hy1 := rds_chg hy (chg_below hb1) hB (.inr rfl)
  have HG := Lib.hid (gmGood_any gr gc ar ac cr cc B w1 hr1 hc1 (by omega))
  have HW := Lib.hid hw1
  cases eg : gameB gr gc
  · have HF : Hid (ieB gr gc x y 1000000 = false) := Lib.hid (by simp only [ieB, eg, Bool.false_and])
    rw [eg] at HG
    clear hw1 hr hc hx hy hr1 hc1 hx1 hy1 eg
    go_enter Try.func65, Try.ntmps65
    go_wp2_with fail
    rw [← HW.out]
    refine HG.out.mono ?_
    rintro e w2 ⟨rfl, hb2⟩
    go_wp2_with fail
    go_ret
    exact ⟨ret_bool HF.out.symm, bnext hb1 hb2⟩
  · rw [eg] at HG
    obtain ⟨k1, k2⟩ := gameB_sizes eg
    have hk1 := k1.m1
    have hkn := k1.n1
    obtain ⟨-, bR, oR, hxR⟩ := id hr1
    obtain ⟨hae, hbR, ra0, rc0, kR, -⟩ := hxR 0 (by omega)
    subst hae
    rw [Nat.add_zero] at kR
    have HKR := Lib.hid (fun w' (hb : Below w1.heap.size w1 w') => (hb.cell (p := ⟨bR, oR, none⟩) (by show bR < _; omega)).trans kR)
    have HWX := Lib.hid (fun w' (hb : Below w1.heap.size w1 w') => gmWeights_any x (gr.length : Nat) ax cx _ w' (rds_chg hx1 (chg_below hb) (by omega) (.inr rfl)))
    have HWY := Lib.hid (fun w' (hb : Below w1.heap.size w1 w') => gmWeights_any y ((gr.getD 0 []).length : Nat) ay cy _ w' (rds_chg hy1 (chg_below hb) (by omega) (.inr rfl)))
    have HF : Hid (ieB gr gc x y 1000000 = (wB gr.length 1000000 x && wB (gr.getD 0 []).length 1000000 y)) := Lib.hid (by simp only [ieB, eg, Bool.true_and])
    clear hw1 hr hc hx hy hr1 hc1 hx1 hy1 eg k1 k2 hxR
    generalize (gr.getD 0 []).length = n at *
    cases ew : wB gr.length 1000000 x
    · rw [ew] at HWX HF
      go_enter Try.func65, Try.ntmps65
      go_wp2_with fail
      rw [← HW.out]
      refine HG.out.mono ?_
      rintro e w2 ⟨rfl, hb2⟩
      have d0 := blk_cell (hp_later g1 hb2) 0 _ rfl
      have d1 := blk_cell (hp_later g1 hb2) 1 _ rfl
      go_wp2_with fail
      refine (HWX.out _ hb2).mono ?_
      rintro e w3 ⟨rfl, rfl⟩
      go_wp2_with fail
      go_ret
      exact ⟨ret_bool (by rw [HF.out, Bool.false_and]), bnext hb1 hb2⟩
    · rw [ew] at HWX HF
      go_enter Try.func65, Try.ntmps65
      go_wp2_with fail
      rw [← HW.out]
      refine HG.out.mono ?_
      rintro e w2 ⟨rfl, hb2⟩
      have d0 := blk_cell (hp_later g1 hb2) 0 _ rfl
      have d1 := blk_cell (hp_later g1 hb2) 1 _ rfl
      have dR := HKR.out _ hb2
      have hrn : 0 < gr.length := hk1
      go_wp2_with fail
      refine (HWX.out _ hb2).mono ?_
      rintro e w3 ⟨rfl, rfl⟩
      go_wp2_with fail
      refine (HWY.out _ hb2).mono ?_
      rintro e w3 ⟨rfl, rfl⟩
      go_wp2_with fail
      go_ret
      exact ⟨ret_bool (by rw [HF.out, Bool.true_and]), bnext hb1 hb2⟩
end Go.Proofs.Ytlkgmnmnlfaopaa
