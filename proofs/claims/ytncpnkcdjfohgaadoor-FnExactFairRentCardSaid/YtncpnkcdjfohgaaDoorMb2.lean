import Derived.Test.YtncpnkcdjfohgaaDoorMa9
namespace Go.Proofs.YtncpnkcdjfohgaaDoor
open Go.RowKit
set_option maxRecDepth 4000
set_option maxHeartbeats 1600000 in
theorem cakeOf_side (n : Int) (hn : ¬ (1 ≤ n ∧ n ≤ 8)) (ts : List (List Int)) (a : Option Addr) (cap : Nat) (w : World) :
    Calls Tryd.prog 43 #[.int .i64 n, .slice a ts.length cap] w fun e w' => e = .returned (.tuple #[.agg zeroC, .bool false]) ∧ Below w.heap.size w w' := by
  have HN := Lib.hid hn
  clear hn
  go_enter Tryd.func43, Tryd.ntmps43
  go_wp2_with (with_reducible refine alloc_blk zeroC run_alloc_cake rfl rfl ?_)
  have hb0 := balloc (Below.refl w.heap.size w) (.cells zeroC 55)
  refine (meshOf_no n HN.out _).mono ?_
  rintro e w1 ⟨rfl, hb1⟩
  have hB1 := balloc (bnext hb0 hb1) (.cells #[.int .i64 n] 50)
  have hg : (w1.alloc (.cells #[.int .i64 n] 50)).heap[w.heap.size]? = some (.cells zeroC 55 (0, 0)) :=
    (Below.heap_alloc w1 _ _ (by have := hb1.size; simp at this; omega)).trans ((hb1.block _ (by simp)).trans (heap_alloc_new _ _))
  have HG := Lib.hid hg
  clear hg hb0 hb1
  go_wp2_with (first | (with_reducible refine build0_cake rfl rfl ?_) | ((with_reducible refine store_blk blkCake rfl _ _ rfl (w.heap.size) (zeroC) (zeroC) ?_ ?_ HG.out (zeroC_size) (zeroC_size) (zeroC_one) (w.heap.size) (Nat.le_refl _) ?_); exact rfl; exact rfl; intro w4 hg4 hb4 _ _))
  exact bodyPost_ret (results_blk blkCake rfl _ _ w.heap.size _ _ rfl rfl hg4 zeroC_size) rfl ⟨rfl, hB1.trans hb4⟩
set_option maxHeartbeats 1600000 in
theorem cakeOf_no (n : Nat) (h1 : 1 ≤ n) (h2 : n ≤ 8) (ts : List (List Int)) (a : Option Addr) (cap : Nat) (w : World) (h : RdSS w w.heap.size a ts) (hy : rowsB n 9 ts = false) :
    Calls Tryd.prog 43 #[.int .i64 n, .slice a ts.length cap] w fun e w' => e = .returned (.tuple #[.agg (zeroC), .bool false]) ∧ Below w.heap.size w w' := by
  have HRD := Lib.hid h
  have HY := Lib.hid hy
  clear h hy
  go_enter Tryd.func43, Tryd.ntmps43
  go_wp2_with (with_reducible refine alloc_blk zeroC run_alloc_cake rfl rfl ?_)
  have hb0 := balloc (Below.refl w.heap.size w) (.cells zeroC 55)
  refine (meshOf_yes n h1 h2 _).mono ?_
  rintro e w1 ⟨rfl, hb1⟩
  have hB1 := balloc (bnext hb0 hb1) (.cells #[.int .i64 n] 50)
  have hg : (w1.alloc (.cells #[.int .i64 n] 50)).heap[w.heap.size]? = some (.cells zeroC 55 (0, 0)) :=
    (Below.heap_alloc w1 _ _ (by have := hb1.size; simp at this; omega)).trans ((hb1.block _ (by simp)).trans (heap_alloc_new _ _))
  have hlt : w.heap.size < (w1.alloc (.cells #[.int .i64 n] 50)).heap.size := by have := hb1.size; simp at this ⊢; omega
  have HG := Lib.hid hg
  have HLT := Lib.hid hlt
  clear hg hb0 hb1 hlt
  go_wp2_with fail
  refine (withTastes_no n h1 h2 ts a cap _ (rdss_mono (rdss_later HRD.out hB1) hB1.size) HY.out).mono ?_
  rintro e w2 ⟨rfl, hb2⟩
  have hB2 := bnext hB1 hb2
  have HG2 := Lib.hid ((hb2.block _ HLT.out).trans HG.out)
  clear hb2
  go_wp2_with ((with_reducible refine store_blk blkCake rfl _ _ rfl (w.heap.size) (zeroC) (zeroC) ?_ ?_ HG2.out (zeroC_size) (zeroC_size) (zeroC_one) (w.heap.size) (Nat.le_refl _) ?_); exact rfl; exact rfl; intro w4 hg4 hb4 _ _)
  exact bodyPost_ret (results_blk blkCake rfl _ _ w.heap.size _ _ rfl rfl hg4 (zeroC_size)) rfl ⟨rfl, hB2.trans hb4⟩
set_option maxHeartbeats 1600000 in
theorem cakeOf_yes (n : Nat) (h1 : 1 ≤ n) (h2 : n ≤ 8) (ts : List (List Int)) (a : Option Addr) (cap : Nat) (w : World) (h : RdSS w w.heap.size a ts) (hy : rowsB n 9 ts = true) :
    Calls Tryd.prog 43 #[.int .i64 n, .slice a ts.length cap] w fun e w' => e = .returned (.tuple #[.agg (cakeA n ts), .bool true]) ∧ Below w.heap.size w w' := by
  have HRD := Lib.hid h
  have HY := Lib.hid hy
  clear h hy
  go_enter Tryd.func43, Tryd.ntmps43
  go_wp2_with (with_reducible refine alloc_blk zeroC run_alloc_cake rfl rfl ?_)
  have hb0 := balloc (Below.refl w.heap.size w) (.cells zeroC 55)
  refine (meshOf_yes n h1 h2 _).mono ?_
  rintro e w1 ⟨rfl, hb1⟩
  have hB1 := balloc (bnext hb0 hb1) (.cells #[.int .i64 n] 50)
  have hg : (w1.alloc (.cells #[.int .i64 n] 50)).heap[w.heap.size]? = some (.cells zeroC 55 (0, 0)) :=
    (Below.heap_alloc w1 _ _ (by have := hb1.size; simp at this; omega)).trans ((hb1.block _ (by simp)).trans (heap_alloc_new _ _))
  have hlt : w.heap.size < (w1.alloc (.cells #[.int .i64 n] 50)).heap.size := by have := hb1.size; simp at this ⊢; omega
  have HG := Lib.hid hg
  have HLT := Lib.hid hlt
  clear hg hb0 hb1 hlt
  go_wp2_with fail
  refine (withTastes_yes n h1 h2 ts a cap _ (rdss_mono (rdss_later HRD.out hB1) hB1.size) HY.out).mono ?_
  rintro e w2 ⟨rfl, hb2⟩
  have hB2 := bnext hB1 hb2
  have HG2 := Lib.hid ((hb2.block _ HLT.out).trans HG.out)
  clear hb2
  go_wp2_with ((with_reducible refine store_blk blkCake rfl _ _ rfl (w.heap.size) (cakeA n ts) (zeroC) ?_ ?_ HG2.out (zeroC_size) (cakeA_size _ _) (cakeA_one _ _) (w.heap.size) (Nat.le_refl _) ?_); exact rfl; exact rfl; intro w4 hg4 hb4 _ _)
  exact bodyPost_ret (results_blk blkCake rfl _ _ w.heap.size _ _ rfl rfl hg4 (cakeA_size _ _)) rfl ⟨rfl, hB2.trans hb4⟩
/-- The closure that picks a person's number. -/
def pickC (g : Nat) : Value := .func (.func 89) #[] #[.pointer (some ⟨g, 0, none⟩)]
set_option maxHeartbeats 800000 in
theorem pickC_any (g p : Nat) (hp : p < 3) (x y z : Int) (w : World) (hg : g < w.heap.size) (hc : w.cell? ⟨g, 0, none⟩ = some (.int .i64 p)) :
    Calls Tryd.prog 89 #[.agg #[.int .i64 x, .int .i64 y, .int .i64 z], .pointer (some ⟨g, 0, none⟩)] w fun e w' => e = .returned (.int .i64 (([x, y, z] : List Int).getD p 0)) ∧ Below w.heap.size w w' := by
  have c1 : (w.alloc (.cells #[.int .i64 x, .int .i64 y, .int .i64 z] 52)).cell? ⟨g, 0, none⟩ = some (.int .i64 p) := (World.cell?_alloc_past _ _ _ hg).trans hc
  have c2 : (w.alloc (.cells #[.int .i64 x, .int .i64 y, .int .i64 z] 52)).cell? ⟨w.heap.size, p, none⟩ = some (.int .i64 (([x, y, z] : List Int).getD p 0)) := by
    rw [World.cell?_alloc_at _ _ _ _ rfl]
    rcases (by omega : p = 0 ∨ p = 1 ∨ p = 2) with rfl | rfl | rfl <;> rfl
  have hp3 : (p : Int) < 3 := by omega
  generalize ([x, y, z] : List Int).getD p 0 = v at *
  go_enter Tryd.func89, Tryd.ntmps89
  go_wp2_with fail
  go_ret
  exact ⟨rfl, by go_grown⟩
/-- The sum of somebody's numbers over k slices. -/
def sf (F : Nat → Int) (p : Nat) : Nat → Int
  | 0 => 0
  | k + 1 => sf F p k + F (3 * k + p)
theorem sf_bd {F : Nat → Int} (h : ∀ q, 0 ≤ F q ∧ F q ≤ 9) (p : Nat) : ∀ k : Nat, 0 ≤ sf F p k ∧ sf F p k ≤ 9 * (k : Int)
  | 0 => by simp [sf]
  | k + 1 => by have := sf_bd h p k; have := h (3 * k + p); simp only [sf]; omega
set_option maxHeartbeats 1600000 in
theorem sumOf_pick (F : Nat → Int) (hF : ∀ q, 0 ≤ F q ∧ F q ≤ 9) (p : Nat) (hp : p < 3) (b off len cap g : Nat) (hlen : len ≤ 8) (w : World) (hg : g < w.heap.size) (hc : w.cell? ⟨g, 0, none⟩ = some (.int .i64 p)) (hb : b < w.heap.size)
    (hs : ∀ q, q < 3 * len → w.cell? ⟨b, off + q, none⟩ = some (.int .i64 (F q))) :
    Calls Tryd.prog 88 #[.slice (some ⟨b, off, none⟩) len cap, pickC g] w fun e w' => e = .returned (.int .i64 (sf F p len)) ∧ Below w.heap.size w w' := by
  have HP : Hid (pickC g = .func (.func 89) #[] #[.pointer (some ⟨g, 0, none⟩)]) := Lib.hid rfl
  have HS := Lib.hid hs
  have HF := Lib.hid hF
  have HSB := Lib.hid (sf_bd hF p)
  clear hs hF
  rw [HP.out]
  go_enter Tryd.func88, Tryd.ntmps88
  go_wp2_with fail
  go_loopw [5, 10] (fun v5 v10 wr => ∃ k : Nat, k ≤ len ∧ v10 = .int .i64 k ∧ v5 = .int .i64 (sf F p k) ∧ Below w.heap.size w wr) (fun _ v10 _ => len - (intOf v10).toNat)
  case atStart => exact ⟨0, Nat.zero_le _, rfl, rfl, Below.refl _ _⟩
  case round =>
    obtain ⟨k, hk, rfl, rfl, hB⟩ := hrel
    by_cases hlt : k < len
    · have c0 := (hB.cell (p := ⟨b, off + (3 * k + 0), none⟩) hb).trans (HS.out (3 * k + 0) (by omega))
      have c1 := (hB.cell (p := ⟨b, off + (3 * k + 1), none⟩) hb).trans (HS.out (3 * k + 1) (by omega))
      have c2 := (hB.cell (p := ⟨b, off + (3 * k + 2), none⟩) hb).trans (HS.out (3 * k + 2) (by omega))
      rw [show off + (3 * k + 0) = off + k * 3 by omega] at c0
      rw [show off + (3 * k + 1) = off + k * 3 + 1 by omega] at c1
      rw [show off + (3 * k + 2) = off + k * 3 + 2 by omega] at c2
      have hsb := HSB.out k
      have HX : Hid (sf F p (k + 1) = sf F p k + ([F (3 * k + 0), F (3 * k + 1), F (3 * k + 2)] : List Int).getD p 0) := Lib.hid (by
        rcases (by omega : p = 0 ∨ p = 1 ∨ p = 2) with rfl | rfl | rfl <;> rfl)
      have hx : 0 ≤ ([F (3 * k + 0), F (3 * k + 1), F (3 * k + 2)] : List Int).getD p 0 ∧ ([F (3 * k + 0), F (3 * k + 1), F (3 * k + 2)] : List Int).getD p 0 ≤ 9 := by
        rcases (by omega : p = 0 ∨ p = 1 ∨ p = 2) with rfl | rfl | rfl
        · exact HF.out _
        · exact HF.out _
        · exact HF.out _
      have hki : (k : Int) < (len : Int) := by omega
      have HH := Lib.hid ((hB.cell (p := ⟨g, 0, none⟩) hg).trans hc)
      have hzz := hB.size
      generalize F (3 * k + 0) = x at *
      generalize F (3 * k + 1) = y at *
      generalize F (3 * k + 2) = z at *
      generalize sf F p k = s at *
      go_wp2_with fail
      refine (pickC_any g p hp x y z _ (by simp; omega) ((World.cell?_alloc_past _ _ _ (by show g < wr.heap.size; omega)).trans HH.out)).mono ?_
      rintro e w2 ⟨rfl, hb2⟩
      have hB2 := bnext (balloc hB (.cells #[.int .i64 x, .int .i64 y, .int .i64 z] 52)) hb2
      clear hb2
      generalize ([x, y, z] : List Int).getD p 0 = u at *
      go_wp2_with fail
      go_roundw
      case rel => exact ⟨k + 1, by omega, by go_num, by rw [HX.out], hB2⟩
      case measure => simp [intOf]; omega
    · have hk2 : k = len := by omega
      subst hk2
      go_wp2_with fail
      go_ret
      exact ⟨rfl, hB⟩
end Go.Proofs.YtncpnkcdjfohgaaDoor
