import Derived.LoopN
import Derived.BigRegion
import Derived.BigQuiet
import Derived.Test.YtlkgmnmnlfaopaaQ4
import Derived.Test.YtlkgmnmnlfaopaaQ7
namespace Go.Proofs.Ytlkgmnmnlfaopaa
open Go.RowKit
set_option maxRecDepth 4000
/-- A game: pays of both players, of one size. -/
def gameB (gr gc : List (List Int)) : Bool := gB gr && gB gc && decide (gr.length = gc.length) && decide ((gr.getD 0 []).length = (gc.getD 0 []).length)
theorem gameB_yes {gr gc : List (List Int)} (h : gameB gr gc = true) : ∃ m n, GOk gr m n ∧ GOk gc m n := by
  simp only [gameB, Bool.and_eq_true, decide_eq_true_eq] at h
  obtain ⟨⟨⟨h1, h2⟩, h3⟩, h4⟩ := h
  have k1 := gB_ok h1
  have k2 := gB_ok h2
  rw [← h3, ← h4] at k2
  exact ⟨_, _, k1, k2⟩
theorem rdss_drewN {w : World} {B : Nat} {a : Option Addr} {cs : List (List Int)} (h : RdSS w B a cs) (m : Nat) : RdSS (w.drewN m) B a cs := rdss_sam h ((Same.refl w).drewN m)
set_option maxHeartbeats 3200000 in
theorem gmGood_any (gr gc : List (List Int)) (ar ac : Option Addr) (cr cc B : Nat) (w : World) (hr : RdSS w B ar gr) (hc : RdSS w B ac gc) (hB : B ≤ w.heap.size) :
    Calls Try.prog 53 #[.agg #[.slice ar gr.length cr, .slice ac gc.length cc]] w fun e w' => e = .returned (.bool (gameB gr gc)) ∧ Below w.heap.size w w' := by
  have hb := balloc (Below.refl w.heap.size w) (.cells #[.slice ar gr.length cr, .slice ac gc.length cc] 27)
  have hch := chg_below hb
  have hr1 := rdss_chg hr hch hB (.inr rfl)
  have hc1 := rdss_chg hc hch hB (.inr rfl)
  have H1 := Lib.hid (fun m => gmRows_any gr ar cr B _ (rdss_drewN hr1 m))
  have H2 := Lib.hid (fun m => gmRows_any gc ac cc B _ (rdss_drewN hc1 m))
  have hg := heap_alloc_new w (.cells #[.slice ar gr.length cr, .slice ac gc.length cc] 27)
  have c0 := blk_cell hg 0 _ rfl
  have c1 := blk_cell hg 1 _ rfl
  clear hch hr hc hg hB
  cases e1 : gB gr
  · have HF : Hid (gameB gr gc = false) := Lib.hid (by simp only [gameB, e1, Bool.false_and])
    rw [e1] at H1
    clear e1 hr1 hc1
    go_enter Try.func53, Try.ntmps53
    go_wp2_with fail
    go_quiet (first | (go_at_call 83; first | with_reducible exact Calls.quiet_of_same (flip (H1.out _)) | with_reducible exact Calls.quiet_of_same (flip (H2.out _))))
    go_wp2
    go_ret
    exact ⟨ret_bool HF.out.symm, hb.trans ((Same.refl _).drewN _ _)⟩
  · rw [e1] at H1
    have g1 := gB_ok e1
    cases e2 : gB gc
    · have HF : Hid (gameB gr gc = false) := Lib.hid (by simp only [gameB, e2, Bool.and_false, Bool.false_and])
      rw [e2] at H2
      clear e1 e2 hr1 hc1 g1
      go_enter Try.func53, Try.ntmps53
      go_wp2_with fail
      go_quiet (first | (go_at_call 83; first | with_reducible exact Calls.quiet_of_same (flip (H1.out _)) | with_reducible exact Calls.quiet_of_same (flip (H2.out _))))
      go_wp2
      go_ret
      exact ⟨ret_bool HF.out.symm, hb.trans ((Same.refl _).drewN _ _)⟩
    · rw [e2] at H2
      have g2 := gB_ok e2
      by_cases hl : gr.length = gc.length
      · have hlb : ((gr.length : Int) == (gc.length : Int)) = true := by simp [hl]
        obtain ⟨-, b, off, hx⟩ := hr1
        obtain ⟨-, b', off', hx'⟩ := hc1
        obtain ⟨rfl, -, ra, rc, k0, -⟩ := hx 0 (by have := g1.m1; omega)
        obtain ⟨rfl, -, ra', rc', k1, -⟩ := hx' 0 (by have := g2.m1; omega)
        rw [Nat.add_zero] at k0 k1
        have hpos := g1.m1
        have hpos' := g2.m1
        have HV : Hid (gameB gr gc = (((gr.getD 0 []).length : Int) == ((gc.getD 0 []).length : Int))) := Lib.hid (by
          simp only [gameB, e1, e2, hl, decide_true, Bool.true_and]; rw [Bool.eq_iff_iff]; simp; omega)
        clear e1 e2 g1 g2 hl
        generalize (gr.getD 0 []).length = n at *
        generalize (gc.getD 0 []).length = n' at *
        go_enter Try.func53, Try.ntmps53
        go_wp2_with fail
        go_quiet (first | (go_at_call 83; first | with_reducible exact Calls.quiet_of_same (flip (H1.out _)) | with_reducible exact Calls.quiet_of_same (flip (H2.out _))))
        go_wp2
        go_ret
        exact ⟨ret_bool HV.out.symm, hb.trans ((Same.refl _).drewN _ _)⟩
      · have hlb : ((gr.length : Int) == (gc.length : Int)) = false := by simp; omega
        have HF : Hid (gameB gr gc = false) := Lib.hid (by simp only [gameB, hl, decide_false, Bool.and_false, Bool.false_and])
        clear e1 e2 g1 g2 hr1 hc1 hl
        go_enter Try.func53, Try.ntmps53
        go_wp2_with fail
        go_quiet (first | (go_at_call 83; first | with_reducible exact Calls.quiet_of_same (flip (H1.out _)) | with_reducible exact Calls.quiet_of_same (flip (H2.out _))))
        go_wp2
        go_ret
        exact ⟨ret_bool HF.out.symm, hb.trans ((Same.refl _).drewN _ _)⟩
set_option maxHeartbeats 3200000 in
theorem isGame_any (gr gc : List (List Int)) (ar ac : Option Addr) (cr cc B : Nat) (w : World) (hr : RdSS w B ar gr) (hc : RdSS w B ac gc) (hB : B ≤ w.heap.size) :
    Calls Try.prog 18 #[.agg #[.slice ar gr.length cr, .slice ac gc.length cc]] w fun e w' => e = .returned (.bool (gameB gr gc)) ∧ Below w.heap.size w w' := by
  have hb := balloc (Below.refl w.heap.size w) (.cells #[.slice ar gr.length cr, .slice ac gc.length cc] 27)
  have hch := chg_below hb
  have hr1 := rdss_chg hr hch hB (.inr rfl)
  have hc1 := rdss_chg hc hch hB (.inr rfl)
  have H1 := Lib.hid (fun m => arePays_any gr ar cr B _ (rdss_drewN hr1 m))
  have H2 := Lib.hid (fun m => arePays_any gc ac cc B _ (rdss_drewN hc1 m))
  have hg := heap_alloc_new w (.cells #[.slice ar gr.length cr, .slice ac gc.length cc] 27)
  have c0 := blk_cell hg 0 _ rfl
  have c1 := blk_cell hg 1 _ rfl
  clear hch hr hc hg hB
  cases e1 : gB gr
  · have HF : Hid (gameB gr gc = false) := Lib.hid (by simp only [gameB, e1, Bool.false_and])
    rw [e1] at H1
    clear e1 hr1 hc1
    go_enter Try.func18, Try.ntmps18
    go_wp2_with fail
    go_quiet (first | (go_at_call 54; first | with_reducible exact Calls.quiet_of_same (flip (H1.out _)) | with_reducible exact Calls.quiet_of_same (flip (H2.out _))))
    go_wp2
    go_ret
    exact ⟨ret_bool HF.out.symm, hb.trans ((Same.refl _).drewN _ _)⟩
  · rw [e1] at H1
    have g1 := gB_ok e1
    cases e2 : gB gc
    · have HF : Hid (gameB gr gc = false) := Lib.hid (by simp only [gameB, e2, Bool.and_false, Bool.false_and])
      rw [e2] at H2
      clear e1 e2 hr1 hc1 g1
      go_enter Try.func18, Try.ntmps18
      go_wp2_with fail
      go_quiet (first | (go_at_call 54; first | with_reducible exact Calls.quiet_of_same (flip (H1.out _)) | with_reducible exact Calls.quiet_of_same (flip (H2.out _))))
      go_wp2
      go_ret
      exact ⟨ret_bool HF.out.symm, hb.trans ((Same.refl _).drewN _ _)⟩
    · rw [e2] at H2
      have g2 := gB_ok e2
      by_cases hl : gr.length = gc.length
      · have hlb : ((gr.length : Int) == (gc.length : Int)) = true := by simp [hl]
        obtain ⟨-, b, off, hx⟩ := hr1
        obtain ⟨-, b', off', hx'⟩ := hc1
        obtain ⟨rfl, -, ra, rc, k0, -⟩ := hx 0 (by have := g1.m1; omega)
        obtain ⟨rfl, -, ra', rc', k1, -⟩ := hx' 0 (by have := g2.m1; omega)
        rw [Nat.add_zero] at k0 k1
        have hpos := g1.m1
        have hpos' := g2.m1
        have HV : Hid (gameB gr gc = (((gr.getD 0 []).length : Int) == ((gc.getD 0 []).length : Int))) := Lib.hid (by
          simp only [gameB, e1, e2, hl, decide_true, Bool.true_and]; rw [Bool.eq_iff_iff]; simp; omega)
        clear e1 e2 g1 g2 hl
        generalize (gr.getD 0 []).length = n at *
        generalize (gc.getD 0 []).length = n' at *
        go_enter Try.func18, Try.ntmps18
        go_wp2_with fail
        go_quiet (first | (go_at_call 54; first | with_reducible exact Calls.quiet_of_same (flip (H1.out _)) | with_reducible exact Calls.quiet_of_same (flip (H2.out _))))
        go_wp2
        go_ret
        exact ⟨ret_bool HV.out.symm, hb.trans ((Same.refl _).drewN _ _)⟩
      · have hlb : ((gr.length : Int) == (gc.length : Int)) = false := by simp; omega
        have HF : Hid (gameB gr gc = false) := Lib.hid (by simp only [gameB, hl, decide_false, Bool.and_false, Bool.false_and])
        clear e1 e2 g1 g2 hr1 hc1 hl
        go_enter Try.func18, Try.ntmps18
        go_wp2_with fail
        go_quiet (first | (go_at_call 54; first | with_reducible exact Calls.quiet_of_same (flip (H1.out _)) | with_reducible exact Calls.quiet_of_same (flip (H2.out _))))
        go_wp2
        go_ret
        exact ⟨ret_bool HF.out.symm, hb.trans ((Same.refl _).drewN _ _)⟩
end Go.Proofs.Ytlkgmnmnlfaopaa
