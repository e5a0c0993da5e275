import Derived.RegionTactic
import Derived.Test.YtfpadepeanejeaaDoorMf4
namespace Go.Proofs.YtfpadepeanejeaaDoor
open Go.RowKit
set_option maxRecDepth 4000
set_option maxHeartbeats 3200000 in
theorem implRentEnvy_no (n i : Int) (ts : List (List Int)) (sh : List Int) (hno : ¬ okR n ts i sh) (a : Option Addr) (cap : Nat) (a' : Option Addr) (cap' : Nat) (w : World) (hv : ShV w) (h : RdSS w w.heap.size a ts) (h' : RdS w w.heap.size a' sh) :
    Calls Tryd.prog 17 #[.int .i64 n, .slice a ts.length cap, .int .i64 i, .slice a' sh.length cap'] w (OutRentEnvy w 0 false) := by
  have HRS := Lib.hid h'
  have HV := Lib.hid hv
  obtain ⟨r, ok, hr1, hr2, hrz⟩ : ∃ (r : Array Value) (ok : Bool), r.size = 3 ∧ r.all (·.oneCell') = true ∧ ((ok = false ∧ r = zeroH ∧ ∀ k, k < 6 → shL k ≠ sh) ∨ (ok = true ∧ ∃ k, k < 6 ∧ sh = shL k ∧ r = shA k)) := by
    cases hb : shB sh
    · exact ⟨zeroH, false, rfl, zeroH_one, .inl ⟨rfl, rfl, fun k hk e => shB_no hb k hk e.symm⟩⟩
    · obtain ⟨k, hk, e⟩ := shB_yes hb
      exact ⟨shA k, true, rfl, shA_one k, .inr ⟨rfl, k, hk, e, rfl⟩⟩
  have HSH := Lib.hid (fun w hv h => sharingOf_any sh r ok hrz a' cap' w hv h)
  have HR1 := Lib.hid hr1
  have HR2 := Lib.hid hr2
  by_cases hf : (1 ≤ n ∧ n ≤ 8) ∧ rowsB 3 20 ts = true
  · obtain ⟨⟨h1', h2'⟩, hy⟩ := hf
    obtain ⟨n, rfl⟩ := Int.eq_ofNat_of_zero_le (show 0 ≤ n by omega)
    have h1 : 1 ≤ n := by omega
    have h2 : n ≤ 8 := by omega
    have HC := Lib.hid (flatOf_yes n h1 h2 ts hy a cap w h)
    have HN : Hid (ok = false ∨ (ok = true ∧ ¬ (0 ≤ i ∧ i < (Pr.cnt n : Nat)))) := Lib.hid (by
      rcases hrz with h | ⟨h, k, hk, e, -⟩
      · exact .inl h.1
      · exact .inr ⟨h, fun hi => hno ⟨⟨by omega, by omega, hi.1, by simpa using hi.2⟩, hy, by rw [e]; simp only [shB, List.any_eq_true, List.mem_range, decide_eq_true_eq]; exact ⟨k, hk, rfl⟩⟩⟩)
    clear hno hy hr1 hr2 hrz h h' hv h1' h2'
    go_enter Tryd.func17, Tryd.ntmps17
    go_wp2_with fail
    refine HC.out.mono ?_
    rcases HN.out with rfl | ⟨rfl, hni⟩
    · clear HN
      rintro e w1 ⟨rfl, hb1⟩
      have hg1 := heap_alloc_new w1 (.cells zeroF 60)
      have hb10 := balloc hb1 (.cells zeroF 60)
      have hz1 := hb1.size
      go_wp2_with (first | (with_reducible refine alloc_blk zeroF run_alloc_flat rfl rfl ?_) | ((with_reducible refine store_blk blkFlat rfl _ _ rfl w1.heap.size (flA n (rw9 ts)) zeroF ?_ ?_ hg1 zeroF_size (flA_size _ _) (flA_one _ _) w1.heap.size (Nat.le_refl _) ?_); exact rfl; exact rfl; intro w2 hg2 hb2 hk2 hz2; have hB2 : Below w.heap.size w w2 := hb10.trans (hb2.mono hz1)))
      refine (HSH.out w2 (ShV_later HV.out hB2) (rds_mono (rds_later HRS.out hB2) hB2.size)).mono ?_
      rintro e w3 ⟨rfl, hb3⟩
      have hB3 := bnext hB2 hb3
      rw [World.size_alloc] at hz2
      have hz3 := hb3.size
      have hf3 := (hb3.block w1.heap.size (by omega)).trans hg2
      have hg3 := heap_alloc_new w3 (.cells zeroH 51)
      have hb30 := balloc hB3 (.cells zeroH 51)
      have hf30 := (Below.heap_alloc w3 (.cells zeroH 51) _ (show w1.heap.size < w3.heap.size by omega)).trans hf3
      go_wp2_with (first | (with_reducible refine alloc_blk zeroH run_alloc_sh rfl rfl ?_) | ((with_reducible refine store_blk blkSh rfl _ _ rfl w3.heap.size (r) zeroH ?_ ?_ hg3 zeroH_size (HR1.out) (HR2.out) w3.heap.size (Nat.le_refl _) ?_); exact rfl; exact rfl; intro w4 hg4 hb4 hk4 hz4; have hB4 : Below w.heap.size w w4 := hb30.trans (hb4.mono hB3.size); have hf4 := (hk4 w1.heap.size (by omega)).trans hf30; have hz4' : w4.heap.size = w3.heap.size + 1 := (by rw [hz4]; simp)))
      go_returns
      exact ⟨rfl, hB4⟩
    · have HNI := Lib.hid hni
      clear HN hni
      rintro e w1 ⟨rfl, hb1⟩
      have hg1 := heap_alloc_new w1 (.cells zeroF 60)
      have hb10 := balloc hb1 (.cells zeroF 60)
      have hz1 := hb1.size
      go_wp2_with (first | (with_reducible refine alloc_blk zeroF run_alloc_flat rfl rfl ?_) | ((with_reducible refine store_blk blkFlat rfl _ _ rfl w1.heap.size (flA n (rw9 ts)) zeroF ?_ ?_ hg1 zeroF_size (flA_size _ _) (flA_one _ _) w1.heap.size (Nat.le_refl _) ?_); exact rfl; exact rfl; intro w2 hg2 hb2 hk2 hz2; have hB2 : Below w.heap.size w w2 := hb10.trans (hb2.mono hz1)))
      refine (HSH.out w2 (ShV_later HV.out hB2) (rds_mono (rds_later HRS.out hB2) hB2.size)).mono ?_
      rintro e w3 ⟨rfl, hb3⟩
      have hB3 := bnext hB2 hb3
      rw [World.size_alloc] at hz2
      have hz3 := hb3.size
      have hf3 := (hb3.block w1.heap.size (by omega)).trans hg2
      have hg3 := heap_alloc_new w3 (.cells zeroH 51)
      have hb30 := balloc hB3 (.cells zeroH 51)
      have hf30 := (Below.heap_alloc w3 (.cells zeroH 51) _ (show w1.heap.size < w3.heap.size by omega)).trans hf3
      go_wp2_with (first | (with_reducible refine alloc_blk zeroH run_alloc_sh rfl rfl ?_) | ((with_reducible refine store_blk blkSh rfl _ _ rfl w3.heap.size (r) zeroH ?_ ?_ hg3 zeroH_size (HR1.out) (HR2.out) w3.heap.size (Nat.le_refl _) ?_); exact rfl; exact rfl; intro w4 hg4 hb4 hk4 hz4; have hB4 : Below w.heap.size w w4 := hb30.trans (hb4.mono hB3.size); have hf4 := (hk4 w1.heap.size (by omega)).trans hf30; have hz4' : w4.heap.size = w3.heap.size + 1 := (by rw [hz4]; simp); have hm4 := blk_cell hf4 0 (.int .i64 n) (flA_zero n (rw9 ts))))
      refine (hasPoint_no n i h2 HNI.out _).mono ?_
      rintro e w5 ⟨rfl, hb5⟩
      have hB5 := bnext hB4 hb5
      clear hm4
      go_wp2_with fail
      go_returns
      exact ⟨rfl, hB5⟩
  · have HC := Lib.hid (flatOf_no n ts hf a cap w h)
    clear hno hf hr1 hr2 hrz h h' hv
    go_enter Tryd.func17, Tryd.ntmps17
    go_wp2_with fail
    refine HC.out.mono ?_
    rintro e w1 ⟨rfl, hb1⟩
    have hg1 := heap_alloc_new w1 (.cells zeroF 60)
    have hb10 := balloc hb1 (.cells zeroF 60)
    have hz1 := hb1.size
    go_wp2_with (first | (with_reducible refine alloc_blk zeroF run_alloc_flat rfl rfl ?_) | ((with_reducible refine store_blk blkFlat rfl _ _ rfl w1.heap.size (zeroF) zeroF ?_ ?_ hg1 zeroF_size (zeroF_size) (zeroF_one) w1.heap.size (Nat.le_refl _) ?_); exact rfl; exact rfl; intro w2 hg2 hb2 hk2 hz2; have hB2 : Below w.heap.size w w2 := hb10.trans (hb2.mono hz1)))
    refine (HSH.out w2 (ShV_later HV.out hB2) (rds_mono (rds_later HRS.out hB2) hB2.size)).mono ?_
    rintro e w3 ⟨rfl, hb3⟩
    have hB3 := bnext hB2 hb3
    rw [World.size_alloc] at hz2
    have hz3 := hb3.size
    have hf3 := (hb3.block w1.heap.size (by omega)).trans hg2
    have hg3 := heap_alloc_new w3 (.cells zeroH 51)
    have hb30 := balloc hB3 (.cells zeroH 51)
    have hf30 := (Below.heap_alloc w3 (.cells zeroH 51) _ (show w1.heap.size < w3.heap.size by omega)).trans hf3
    go_wp2_with (first | (with_reducible refine alloc_blk zeroH run_alloc_sh rfl rfl ?_) | ((with_reducible refine store_blk blkSh rfl _ _ rfl w3.heap.size (r) zeroH ?_ ?_ hg3 zeroH_size (HR1.out) (HR2.out) w3.heap.size (Nat.le_refl _) ?_); exact rfl; exact rfl; intro w4 hg4 hb4 hk4 hz4; have hB4 : Below w.heap.size w w4 := hb30.trans (hb4.mono hB3.size); have hf4 := (hk4 w1.heap.size (by omega)).trans hf30; have hz4' : w4.heap.size = w3.heap.size + 1 := (by rw [hz4]; simp)))
    go_returns
    exact ⟨rfl, hB4⟩
theorem law_RentEnvy (w : World) (n : Int) (_ : (Lit.int .i64 n).wf = true) (ws : List (List Int)) (a_ws : Option Addr) (c_ws : Nat) (h_ws : RdSS w w.heap.size a_ws ws) (i : Int) (_ : (Lit.int .i64 i).wf = true) (sh : List Int) (a_sh : Option Addr) (c_sh : Nat) (h_sh : RdS w w.heap.size a_sh sh) (hv : ShV w) :
    Calls Tryd.prog 5 #[.int .i64 n, .slice a_ws ws.length c_ws, .int .i64 i, .slice a_sh sh.length c_sh] w fun e w' => e = .returned (.bool true) ∧ Below w.heap.size w w' := by
  by_cases h : okR n ws i sh
  · obtain ⟨hp, hy, hs⟩ := h
    obtain ⟨n, i, rfl, rfl, h1, h2, hi⟩ := okPt_nat hp
    obtain ⟨k, hk, rfl⟩ := shB_yes hs
    obtain ⟨G, hG⟩ := envy_exists (rnW ws n i) (shS k)
    exact lawOf_RentEnvy n ws a_ws c_ws i (shL k) a_sh c_sh w h_ws h_sh hv _ _ (fun a c a' c' w' _ _ h h' => specRentEnvy_yes n i h1 h2 hi ws hy k hk G hG a c a' c' w' h h') (fun a c a' c' w' _ _ hv h h' => implRentEnvy_yes n i h1 h2 hi ws hy k hk G hG a c a' c' w' hv h h')
  · exact lawOf_RentEnvy n ws a_ws c_ws i sh a_sh c_sh w h_ws h_sh hv _ _ (fun a c a' c' w' _ _ h1 h2 => specRentEnvy_no n i ws sh h a c a' c' _ w' h1 h2) (fun a c a' c' w' _ _ hv h1 h2 => implRentEnvy_no n i ws sh h a c a' c' w' hv h1 h2)
end Go.Proofs.YtfpadepeanejeaaDoor
