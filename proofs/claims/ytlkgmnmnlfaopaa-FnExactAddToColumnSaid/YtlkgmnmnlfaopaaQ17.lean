import Derived.LoopN
import Derived.BigRegion
import Derived.BigQuiet
import Derived.Test.YtlkgmnmnlfaopaaQ16
namespace Go.Proofs.Ytlkgmnmnlfaopaa
open Go.RowKit
set_option maxRecDepth 4000
set_option maxHeartbeats 800000 in
theorem areCol_any (gr : List (List Int)) (m n : Nat) (ok : GOk gr m n) (y : List Int) (hi : Nat) (hh : hi ≤ 1000000) (ar ay : Option Addr) (cr cy B : Nat) (v2 : Value) (w : World) (hr : RdSS w B ar gr) (hy : RdS w B ay y) (hB : B ≤ w.heap.size) :
    Calls Try.prog 60 #[.agg #[.slice ar gr.length cr, v2], .slice ay y.length cy, .int .i64 hi] w fun e w' => e = .returned (.bool (wB n hi y)) ∧ Below w.heap.size w w' := by
  have hmr := ok.rows
  have hm1 := ok.m1
  have hl0 := ok.len 0 (by omega)
  obtain ⟨w1, hw1⟩ : ∃ w1, w1 = (w.alloc (.cells #[.slice ar gr.length cr, v2] 27)) := ⟨_, rfl⟩
  have hb1 : Below w.heap.size w w1 := by rw [hw1]; exact balloc (Below.refl w.heap.size w) _
  have hcc := columnCount_any gr ar cr B v2 w1 (rdss_chg hr (chg_below hb1) hB (.inr rfl)) (by omega) (by have := hb1.size; omega)
  rw [hl0] at hcc
  have HCC := Lib.hid hcc
  have HAC := Lib.hid (fun w' (hb : Below w1.heap.size w1 w') => areChances_any y n hi (by have := ok.n1; omega) (by have := ok.n3; omega) hh ay cy B w' (rds_chg (rds_chg hy (chg_below hb1) hB (.inr rfl)) (chg_below hb) (by have := hb1.size; omega) (.inr rfl)))
  have HW := Lib.hid hw1
  clear hw1 hr hy hmr hm1 hl0 hcc ok
  go_enter Try.func60, Try.ntmps60
  go_wp2_with fail
  rw [← HW.out]
  refine HCC.out.mono ?_
  rintro e w2 ⟨rfl, hb2⟩
  go_wp2_with fail
  refine (HAC.out _ hb2).mono ?_
  rintro e w3 ⟨rfl, hs⟩
  go_wp2_with fail
  go_ret
  exact ⟨rfl, (bnext hb1 hb2).trans (hs _)⟩
set_option maxHeartbeats 800000 in
theorem areRow_any (gr : List (List Int)) (m n : Nat) (ok : GOk gr m n) (x : List Int) (hi : Nat) (hh : hi ≤ 1000000) (ar ax : Option Addr) (cr cx B : Nat) (v2 : Value) (w : World) (hx : RdS w B ax x) (hB : B ≤ w.heap.size) :
    Calls Try.prog 63 #[.agg #[.slice ar gr.length cr, v2], .slice ax x.length cx, .int .i64 hi] w fun e w' => e = .returned (.bool (wB m hi x)) ∧ Below w.heap.size w w' := by
  have hmr := ok.rows
  subst hmr
  obtain ⟨w1, hw1⟩ : ∃ w1, w1 = (w.alloc (.cells #[.slice ar gr.length cr, v2] 27)) := ⟨_, rfl⟩
  have hb1 : Below w.heap.size w w1 := by rw [hw1]; exact balloc (Below.refl w.heap.size w) _
  have HCC := Lib.hid (rowCount_any gr ar cr v2 w1)
  have HAC := Lib.hid (fun w' (hb : Below w1.heap.size w1 w') => areChances_any x gr.length hi (by have := ok.m1; omega) (by have := ok.m3; omega) hh ax cx B w' (rds_chg (rds_chg hx (chg_below hb1) hB (.inr rfl)) (chg_below hb) (by have := hb1.size; omega) (.inr rfl)))
  have HW := Lib.hid hw1
  clear hw1 hx ok
  go_enter Try.func63, Try.ntmps63
  go_wp2_with fail
  rw [← HW.out]
  refine HCC.out.mono ?_
  rintro e w2 ⟨rfl, hb2⟩
  go_wp2_with fail
  refine (HAC.out _ hb2).mono ?_
  rintro e w3 ⟨rfl, hs⟩
  go_wp2_with fail
  go_ret
  exact ⟨rfl, (bnext hb1 hb2).trans (hs _)⟩
set_option maxHeartbeats 1600000 in
theorem bestColumns_any (gr gc : List (List Int)) (m n : Nat) (ok1 : GOk gr m n) (ok2 : GOk gc m n) (x : List Int) (hi : Nat) (hx : allB 0 (hi : Int) x = true) (hh : hi ≤ 1000000) (hxm : x.length = m) (ar ac ax : Option Addr) (cr cc cx B : Nat) (w : World)
    (hr : RdSS w B ar gr) (hc : RdSS w B ac gc) (h' : RdS w B ax x) (hB : B ≤ w.heap.size) :
    Calls Try.prog 64 #[.agg #[.slice ar gr.length cr, .slice ac gc.length cc], .slice ax x.length cx] w fun e w' => ∃ v, e = .returned v ∧ OI w' w.heap.size w'.heap.size v (bestL (payL (trL gc m n) x m)) ∧ Below w.heap.size w w' := by
  obtain ⟨w1, hw1⟩ : ∃ w1, w1 = (w.alloc (.cells #[.slice ar gr.length cr, .slice ac gc.length cc] 27)) := ⟨_, rfl⟩
  have hb1 : Below w.heap.size w w1 := by rw [hw1]; exact balloc (Below.refl w.heap.size w) _
  have hz1 := hb1.size
  have HSW := Lib.hid (swapped_any gr gc m n ok1 ok2 ar ac cr cc B w1 (rdss_chg hr (chg_below hb1) hB (.inr rfl)) (rdss_chg hc (chg_below hb1) hB (.inr rfl)) (by omega))
  have HBR := Lib.hid (fun a1 c1 v2 w' (hb : Below w1.heap.size w1 w') (h1 : RdSS w' w'.heap.size a1 (trL gc m n)) => bestRows_any (trL gc m n) n m (trL_ok ok2) x hi hx hh hxm a1 ax c1 cx w'.heap.size v2 w' h1 (rds_mono (rds_chg (rds_chg h' (chg_below hb1) hB (.inr rfl)) (chg_below hb) (by omega) (.inr rfl)) (by have := hb.size; omega)) (Nat.le_refl _))
  have HW := Lib.hid hw1
  clear hw1 hr hc h' ok1 ok2 hx hxm
  go_enter Try.func64, Try.ntmps64
  go_wp2_with fail
  rw [← HW.out]
  refine HSW.out.mono ?_
  rintro e w2 ⟨v1, v2, rfl, og, hb2⟩
  obtain ⟨a1, c1, a2, c2, rfl, rfl, r1, -⟩ := og_shape og
  have hz2 := hb2.size
  go_wp2_with fail
  refine (HBR.out _ _ _ _ hb2 r1).mono ?_
  rintro e w3 ⟨v, rfl, ho, hb3⟩
  obtain ⟨pa, pc, pb, rfl, -, -⟩ := oi_shape ho
  go_wp2_with fail
  go_ret
  obtain ⟨et, ho1, ho2⟩ := ho
  exact ⟨_, rfl, ⟨et, own_base ho1 (by omega), ho2⟩, bnext (bnext hb1 hb2) hb3⟩
theorem wB_all {n : Int} {hi : Nat} {y : List Int} (h : wB n hi y = true) : allB 0 (hi : Int) y = true := (wB_yes h).2.1
theorem wB_len {n hi : Nat} {y : List Int} (h : wB n hi y = true) : y.length = n := by have := (wB_yes h).1; omega
def rrB (gr gc : List (List Int)) (y : List Int) : Bool := gameB gr gc && wB (gr.getD 0 []).length 1000000 y
def crB (gr gc : List (List Int)) (x : List Int) : Bool := gameB gr gc && wB gr.length 1000000 x
theorem gameB_sizes {gr gc : List (List Int)} (h : gameB gr gc = true) : GOk gr gr.length (gr.getD 0 []).length ∧ GOk gc gr.length (gr.getD 0 []).length := by
  simp only [gameB, Bool.and_eq_true, decide_eq_true_eq] at h
  obtain ⟨⟨⟨h1, h2⟩, h3⟩, h4⟩ := h
  have k2 := gB_ok h2
  rw [← h3, ← h4] at k2
  exact ⟨gB_ok h1, k2⟩
end Go.Proofs.Ytlkgmnmnlfaopaa
