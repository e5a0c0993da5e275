import Derived.Test.YtncpnkcdjfohgaaDoorMa8
namespace Go.Proofs.YtncpnkcdjfohgaaDoor
open Go.RowKit
set_option maxRecDepth 4000
set_option maxHeartbeats 1600000 in
theorem withTastes_no (n : Nat) (_h1 : 1 ≤ n) (_h2 : n ≤ 8) (ts : List (List Int)) (a : Option Addr) (cap : Nat) (w : World) (h : RdSS w w.heap.size a ts) (hno : rowsB n 9 ts = false) :
    Calls Tryd.prog 81 #[.agg #[.int .i64 n], .slice a ts.length cap] w fun e w' => e = .returned (.tuple #[.agg zeroC, .bool false]) ∧ Below w.heap.size w w' := by
  have HRD := Lib.hid h
  have HNO := Lib.hid hno
  clear h hno
  go_enter Tryd.func81, Tryd.ntmps81
  go_wp2_with (with_reducible refine alloc_blk zeroC run_alloc_cake rfl rfl ?_)
  have hb0 := balloc (balloc (Below.refl w.heap.size w) (.cells #[.int .i64 n] 50)) (.cells zeroC 55)
  refine (areForPeople_any n 9 ts a cap _ (rdss_mono (rdss_later HRD.out hb0) hb0.size)).mono ?_
  rintro e w1 ⟨rfl, hb1⟩
  rw [HNO.out]
  have hB1 := bnext hb0 hb1
  have hg : w1.heap[w.heap.size + 1]? = some (.cells zeroC 55 (0, 0)) := by
    refine (hb1.block _ (by simp)).trans ?_
    have := heap_alloc_new (w.alloc (.cells #[.int .i64 n] 50)) (.cells zeroC 55)
    rwa [World.size_alloc] at this
  have HG := Lib.hid hg
  clear hg hb0 hb1
  go_wp2_with (first | (with_reducible refine build0_cake rfl rfl ?_) | ((with_reducible refine store_blk blkCake rfl _ _ rfl (w.heap.size + 1) zeroC zeroC ?_ ?_ HG.out zeroC_size zeroC_size zeroC_one (w.heap.size + 1) (Nat.le_refl _) ?_); exact rfl; exact rfl; intro w4 hg4 hb4 _ _; have hB4 := hB1.trans (hb4.mono (Nat.le_succ _))))
  exact bodyPost_ret (results_blk blkCake rfl _ _ (w.heap.size + 1) _ _ rfl rfl hg4 zeroC_size) rfl ⟨rfl, hB4⟩

set_option maxHeartbeats 3200000 in
theorem withTastes_yes (n : Nat) (h1 : 1 ≤ n) (h2 : n ≤ 8) (ts : List (List Int)) (a : Option Addr) (cap : Nat) (w : World) (h : RdSS w w.heap.size a ts) (hyes : rowsB n 9 ts = true) :
    Calls Tryd.prog 81 #[.agg #[.int .i64 n], .slice a ts.length cap] w fun e w' => e = .returned (.tuple #[.agg (cakeA n ts), .bool true]) ∧ Below w.heap.size w w' := by
  have HRD := Lib.hid h
  obtain ⟨hl3, hrow⟩ := rowsB_at hyes
  have HY := Lib.hid hyes
  have HROW := Lib.hid hrow
  have HL3 := Lib.hid hl3
  clear h hyes hrow hl3
  go_enter Tryd.func81, Tryd.ntmps81
  go_wp2_with (with_reducible refine alloc_blk zeroC run_alloc_cake rfl rfl ?_)
  have hb0 := balloc (balloc (Below.refl w.heap.size w) (.cells #[.int .i64 n] 50)) (.cells zeroC 55)
  refine (areForPeople_any n 9 ts a cap _ (rdss_mono (rdss_later HRD.out hb0) hb0.size)).mono ?_
  rintro e w1 ⟨rfl, hb1⟩
  rw [HY.out]
  have hB1 := bnext hb0 hb1
  have hg : w1.heap[w.heap.size + 1]? = some (.cells zeroC 55 (0, 0)) := by
    refine (hb1.block _ (by simp)).trans ?_
    have := heap_alloc_new (w.alloc (.cells #[.int .i64 n] 50)) (.cells zeroC 55)
    rwa [World.size_alloc] at this
  have hm1 : w1.cell? ⟨w.heap.size, 0, none⟩ = some (.int .i64 n) := by
    refine (hb1.cell (by simp; omega)).trans ?_
    rw [World.cell?_alloc_past _ _ _ (by simp [World.size_alloc]), World.cell?_alloc_at _ _ _ _ rfl]; rfl
  have hz1 : w.heap.size + 2 ≤ w1.heap.size := by have := hb1.size; simpa using this
  have HG := Lib.hid hg
  clear hg hb0 hb1
  go_wp2_with (first | (with_reducible refine alloc_blk zeroC run_alloc_cake rfl rfl ?_) | ((with_reducible refine buildn_cake rfl _ n rfl ?_ ?_); exact rfl) | ((with_reducible refine store_blk blkCake rfl _ _ rfl w1.heap.size (cakeF n fun _ => 0) zeroC ?_ ?_ (heap_alloc_new _ _) zeroC_size (cakeF_size _ _) (cakeF_one _ _) w1.heap.size (Nat.le_refl _) ?_); exact rfl; exact rfl; intro w2 hg2 hb2 _ hsz2))
  have hB2 : Below w.heap.size w w2 := (balloc hB1 _).trans (hb2.mono (by omega))
  have hz2 : w1.heap.size < w2.heap.size := by rw [hsz2]; simp
  have HG2 := Lib.hid (((hb2.block _ (by omega)).trans (Below.heap_alloc w1 _ _ (by omega))).trans HG.out)
  clear hb2 hsz2 hm1
  go_wp2_with fail
  go_loopw [21] (fun v21 wr => ∃ (p : Nat) (f : Nat → Int), p ≤ ts.length ∧ v21 = .int .i64 p ∧ wr.heap[w1.heap.size]? = some (.cells (cakeF n f) 55 (0, 0)) ∧ (∀ q, q < 24 → f q = if q % 3 < p then tv ts q else 0) ∧ Below w.heap.size w wr ∧ wr.heap[w.heap.size + 1]? = some (.cells zeroC 55 (0, 0))) (fun v21 _ => ts.length - (intOf v21).toNat)
  case atStart => exact ⟨0, fun _ => 0, Nat.zero_le _, rfl, hg2, fun q _ => by rw [if_neg (by omega)], hB2, HG2.out⟩
  case round =>
    clear hg2 HG2 hB2
    obtain ⟨p, f, hp, rfl, hg, hf, hb, hg4⟩ := hrel
    obtain ⟨wo, rfl⟩ : ∃ wo : World, wo = wr := ⟨_, rfl⟩
    have HF := Lib.hid hf
    have HG4 := Lib.hid hg4
    clear hf hg4
    by_cases hlt : p < ts.length
    · obtain ⟨-, b, off, hrow⟩ := HRD.out
      obtain ⟨ha, hbl, ra, rc, c0, rb, ro, hr, hrb⟩ := hrow p hlt
      obtain ⟨htl, hta⟩ := HROW.out p hlt
      subst ha
      have c1 := (hb.cell (p := ⟨b, off + p, none⟩) hbl).trans c0
      have hpi : (p : Int) < (ts.length : Int) := by omega
      have hp3 : (p : Int) < 3 := by have := HL3.out; omega
      have HTV : Hid (∀ q j, q % 3 = p → q / 3 = j → tv ts q = (ts.getD p []).getD j 0) := Lib.hid (fun q j h1 h2 => by rw [tv, h1, h2])
      have HR := Lib.hid hr
      clear hrow c0 hta hr
      generalize ts.getD p [] = t at *
      have hn1 : t.length = n := htl
      have HTL := Lib.hid htl
      have htb : t.length ≤ 8 := by omega
      clear htl hn1
      go_wp2_with fail
      go_loopw [28] (fun v28 wr => ∃ (j : Nat) (f : Nat → Int), j ≤ t.length ∧ v28 = .int .i64 j ∧ wr.heap[w1.heap.size]? = some (.cells (cakeF n f) 55 (0, 0)) ∧ (∀ q, q < 24 → f q = if q % 3 < p ∨ (q % 3 = p ∧ q / 3 < j) then tv ts q else 0) ∧ Below w.heap.size w wr ∧ wr.heap[w.heap.size + 1]? = some (.cells zeroC 55 (0, 0))) (fun v28 _ => t.length - (intOf v28).toNat)
      case atStart => exact ⟨0, f, Nat.zero_le _, rfl, hg, fun q hq => by rw [HF.out q hq]; congr 1; simp, hb, HG4.out⟩
      case round =>
        clear hg HG4 hb HF c1
        obtain ⟨j, f, hj, rfl, hg, hf, hb, hg4⟩ := hrel
        have HF := Lib.hid hf
        have HG4 := Lib.hid hg4
        clear hf hg4
        by_cases hltj : j < t.length
        · obtain ⟨hra, cj⟩ := HR.out.2 j hltj
          subst hra
          have hrb' : rb < w.heap.size := by omega
          have c2 := (hb.cell (p := ⟨rb, ro + j, none⟩) hrb').trans cj
          have HX := Lib.hid (HTV.out (3 * j + p) j (by omega) (by omega))
          have hji : (j : Int) < (t.length : Int) := by omega
          have hj8 : (j : Int) < 8 := by omega
          have c3 := blk_cell hg (1 + (3 * j + p)) _ (cakeF_at n f (3 * j + p) (by omega))
          have f3 := frozen_of_row wr w1.heap.size (1 + (3 * j + p)) _ _ hg
          have HS := Lib.hid (heap_setCell_same wr w1.heap.size (1 + (3 * j + p)) _ _ (.int .i64 (t.getD j 0)) hg)
          rw [cakeF_set n f (3 * j + p) _ (by omega)] at HS
          rw [show 1 + (3 * j + p) = 1 + j * 3 + p by omega] at c3 f3 HS
          have HE : Hid (∀ q, q < 24 → (if q = 3 * j + p then t.getD j 0 else f q) = if q % 3 < p ∨ (q % 3 = p ∧ q / 3 < j + 1) then tv ts q else 0) := Lib.hid (fun q hq => by
            by_cases e : q = 3 * j + p
            · rw [if_pos e, if_pos (by omega), e, HX.out]
            · rw [if_neg e, HF.out q hq]
              congr 1
              simp only [eq_iff_iff]
              omega)
          have HG5 : Hid (∀ v, (wr.setCell ⟨w1.heap.size, 1 + j * 3 + p, none⟩ v).heap[w.heap.size + 1]? = some (.cells zeroC 55 (0, 0))) := Lib.hid (fun v => (Below.heap_setCell _ _ _ _ (by show w.heap.size + 1 ≠ w1.heap.size; omega)).trans HG4.out)
          clear cj HX HF HG4
          generalize t.getD j 0 = x at *
          generalize f (3 * j + p) = old at c3
          go_wp2_with fail
          go_roundw
          case rel => exact ⟨j + 1, _, by omega, by go_num, HS.out, HE.out, hb.setCell (p := ⟨w1.heap.size, 1 + j * 3 + p, none⟩) (by show w.heap.size ≤ w1.heap.size; omega) _, HG5.out _⟩
          case measure => simp [intOf]; omega
        · have hj2 : j = t.length := by omega
          have HE : Hid (∀ q, q < 24 → f q = if q % 3 < p + 1 then tv ts q else 0) := Lib.hid (fun q hq => by
            rw [HF.out q hq]
            by_cases h1 : q % 3 < p
            · rw [if_pos (.inl h1), if_pos (by omega)]
            · by_cases h2 : q % 3 = p
              · rw [if_pos (show q % 3 < p + 1 by omega)]
                by_cases h3 : q / 3 < j
                · rw [if_pos (.inr ⟨h2, h3⟩)]
                · rw [if_neg (by omega), HTV.out q (q / 3) h2 rfl, List.getD_eq_getElem?_getD, List.getElem?_eq_none (by omega)]; rfl
              · rw [if_neg (by omega), if_neg (by omega)])
          clear HF hj2
          go_wp2_with fail
          go_roundw
          case rel => exact ⟨p + 1, f, by omega, by go_num, hg, HE.out, hb, HG4.out⟩
          case measure => simp [intOf]; omega
    · have hp2 : p = 3 := by have := HL3.out; omega
      have HE : Hid (cakeF n f = cakeA n ts) := Lib.hid (cakeF_congr n (fun q hq => by rw [HF.out q hq, if_pos (by omega)]))
      rw [HE.out] at hg
      clear hp2 HF HE
      go_wp2_with (first | ((with_reducible refine load_blk blkCake ?_ _ rfl w1.heap.size ?_ (cakeA n ts) hg (cakeA_size _ _) ?_); exact rfl; exact rfl; simp only [Act.put, List.setIfInBounds_toArray, List.set_cons_zero, List.set_cons_succ]) | ((with_reducible refine store_blk blkCake rfl _ _ rfl (w.heap.size + 1) (cakeA n ts) zeroC ?_ ?_ HG4.out zeroC_size (cakeA_size _ _) (cakeA_one _ _) (w.heap.size + 1) (Nat.le_refl _) ?_); exact rfl; exact rfl; intro w4 hg4 hb4 _ _; have hB4 := hb.trans (hb4.mono (Nat.le_succ _))))
      exact bodyPost_ret (results_blk blkCake rfl _ _ (w.heap.size + 1) _ _ rfl rfl hg4 (cakeA_size _ _)) rfl ⟨rfl, hB4⟩
end Go.Proofs.YtncpnkcdjfohgaaDoor
