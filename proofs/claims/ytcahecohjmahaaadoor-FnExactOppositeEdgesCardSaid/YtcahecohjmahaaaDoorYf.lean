import Derived.Test.YtcahecohjmahaaaDoorYe
import Derived.Test.YtcahecohjmahaaaDoorZc
namespace Go.Proofs.YtcahecohjmahaaaDoor
open Go.RowKit
set_option maxRecDepth 4000
/-- A square with labels as the program keeps it. -/
def lqA (n : Int) (a : Option Addr) (len cap : Nat) : Array Value := #[.int .i64 n, .iface 167 (.slice a len cap)]
def lq0 : Array Value := #[.int .i64 0, .nilIface]
theorem blkSq : Blk 61 2 := ⟨.inl ⟨_, Tryd.underlying61⟩, by kernel_rfl⟩
theorem lq_size (n : Int) (a : Option Addr) (len cap : Nat) : (lqA n a len cap).size = 2 := rfl
theorem lq_one (n : Int) (a : Option Addr) (len cap : Nat) : (lqA n a len cap).all (·.oneCell') = true := by simp [lqA, Value.oneCell']
theorem lq0_one : lq0.all (·.oneCell') = true := by decide +kernel
set_option maxHeartbeats 1000000 in
theorem withLabels_yes (n : Int) (xs : List Int) (a : Option Addr) (b len cap : Nat) (w : World) (hn : xs.length = len) (h : Rd w a b 0 xs) (hb0 : len = 0 ∨ b < w.heap.size) (hm : len ≤ 1048576) (hL : sqB n xs = true) :
    Calls Tryd.prog 91 #[.agg #[.int .i64 n], .slice a len cap] w fun e w' => e = .returned (.tuple #[.agg (lqA n a len cap), .bool true]) ∧ Below w.heap.size w w' := by
  obtain ⟨h1, h2, hl, hA⟩ := sqB_yes hL
  have hq : ((len : Int) != sqc n) = false := by rw [← hn]; simp [hl]
  have HA := Lib.hid hA
  clear hL hl hA
  have hbl : b < w.heap.size ∨ len = 0 := by omega
  have HR := Lib.hid h
  have HN := Lib.hid hn
  have HRD : Hid (∀ W, Below w.heap.size w W → Rd W a b 0 xs) := by
    intro W hB
    refine ⟨HR.out.1, fun j hj => ⟨(HR.out.2 j hj).1, ?_⟩⟩
    rcases hbl with h | h
    · exact (hB.cell (by simpa using h)).trans (HR.out.2 j hj).2
    · rw [HN.out, h] at hj; exact absurd hj (Nat.not_lt_zero _)
  clear h hn hb0
  go_enter Tryd.func91, Tryd.ntmps91
  go_wp2_with fail
  refine (sqSize_any n h1 h2 _).mono ?_
  rintro e w1 ⟨rfl, hb1⟩
  have hB1 : Below w.heap.size w w1 := Below.trans (by go_grown) (hb1.mono (by simp <;> omega))
  have hm1 : w1.cell? ⟨w.heap.size, 0, none⟩ = some (.int .i64 n) := (hb1.cell (by simp; omega)).trans (by go_simp)
  have HR1 := Lib.hid (HRD.out _ hB1)
  have hres : w1.heap[w.heap.size + 1]? = some (.cells lq0 61 (0, 0)) := by
    have e := heap_alloc_new (w.alloc (.cells #[.int .i64 n] 57)) (.cells lq0 61)
    rw [World.size_alloc] at e
    exact (hb1.block _ (by simp)).trans e
  have HRES := Lib.hid hres
  clear hb1 hres
  generalize sqc n = s at hq
  go_wp2_with fail
  go_loop [16] (fun v16 => ∃ k : Nat, k ≤ len ∧ v16 = .int .i64 k) (fun v16 => len - (intOf v16).toNat)
  case atStart => exact ⟨0, Nat.zero_le _, rfl⟩
  case round =>
    obtain ⟨k, hk, rfl⟩ := hrel
    by_cases hlt : k < len
    · obtain ⟨ha, c⟩ := HR1.out.2 k (by rw [HN.out]; exact hlt)
      obtain ⟨l0, l1, l2⟩ := all4_at HA.out k (by rw [HN.out]; exact hlt)
      subst ha
      rw [Nat.zero_add] at c
      have hki : (k : Int) < (len : Int) := by omega
      generalize xs.getD k 0 = x at *
      have hs4 : sl4 x = true := decide_eq_true ⟨l0, l1, l2⟩
      go_wp2_with fail
      refine (isSquareLabel_any x _).mono ?_
      rintro e w' ⟨rfl, rfl⟩
      rw [hs4]
      go_wp2_with fail
      go_round
      case rel => exact ⟨k + 1, by omega, by go_num⟩
      case measure => simp [intOf]; omega
    · have hm := hm1
      go_wp2_with ((with_reducible refine store_blk blkSq rfl _ _ rfl (w.heap.size + 1) (lqA n a len cap) lq0 ?_ ?_ HRES.out rfl (lq_size _ _ _ _) (lq_one _ _ _ _) (w.heap.size + 1) (Nat.le_refl _) ?_); exact rfl; exact rfl; intro w4 hg4 hb4 hk4 hs4)
      exact bodyPost_ret (results_blk blkSq rfl _ _ (w.heap.size + 1) _ _ rfl rfl hg4 (lq_size _ _ _ _)) rfl ⟨rfl, hB1.trans (hb4.mono (Nat.le_succ _))⟩
set_option maxHeartbeats 1000000 in
theorem withLabels_no (n : Int) (xs : List Int) (a : Option Addr) (b len cap : Nat) (w : World) (h1 : 1 ≤ n) (h2 : n ≤ 4) (hn : xs.length = len) (h : Rd w a b 0 xs) (hb0 : len = 0 ∨ b < w.heap.size) (hm : len ≤ 1048576) (hL : sqB n xs = false) :
    Calls Tryd.prog 91 #[.agg #[.int .i64 n], .slice a len cap] w fun e w' => e = .returned (.tuple #[.agg lq0, .bool false]) ∧ Below w.heap.size w w' := by
  have hbl : b < w.heap.size ∨ len = 0 := by omega
  have HR := Lib.hid h
  have HN := Lib.hid hn
  have HRD : Hid (∀ W, Below w.heap.size w W → Rd W a b 0 xs) := by
    intro W hB
    refine ⟨HR.out.1, fun j hj => ⟨(HR.out.2 j hj).1, ?_⟩⟩
    rcases hbl with h | h
    · exact (hB.cell (by simpa using h)).trans (HR.out.2 j hj).2
    · rw [HN.out, h] at hj; exact absurd hj (Nat.not_lt_zero _)
  clear h hn hb0
  by_cases hl : (len : Int) = sqc n
  · have hq : ((len : Int) != sqc n) = false := by simp [hl]
    have HL : Hid (all4 xs = false) := Lib.hid (by rw [← sqB_of (n := n) h1 h2 (by rw [HN.out]; exact hl)]; exact hL)
    clear hL hl
    go_enter Tryd.func91, Tryd.ntmps91
    go_wp2_with fail
    refine (sqSize_any n h1 h2 _).mono ?_
    rintro e w1 ⟨rfl, hb1⟩
    have hB1 : Below w.heap.size w w1 := Below.trans (by go_grown) (hb1.mono (by simp <;> omega))
    have hm1 : w1.cell? ⟨w.heap.size, 0, none⟩ = some (.int .i64 n) := (hb1.cell (by simp; omega)).trans (by go_simp)
    have hres : w1.heap[w.heap.size + 1]? = some (.cells lq0 61 (0, 0)) := by
      have e := heap_alloc_new (w.alloc (.cells #[.int .i64 n] 57)) (.cells lq0 61)
      rw [World.size_alloc] at e
      exact (hb1.block _ (by simp)).trans e
    have HRES := Lib.hid hres
    have HR1 := Lib.hid (HRD.out _ hB1)
    clear hb1 hres
    generalize sqc n = s at hq
    go_wp2_with fail
    go_loop [16] (fun v16 => ∃ k : Nat, k ≤ len ∧ v16 = .int .i64 k ∧ Hid (∀ j, j < k → sl4 (xs.getD j 0) = true)) (fun v16 => len - (intOf v16).toNat)
    case atStart => exact ⟨0, Nat.zero_le _, rfl, Lib.hid (fun j hj => absurd hj (Nat.not_lt_zero _))⟩
    case round =>
      obtain ⟨k, hk, rfl, hall⟩ := hrel
      by_cases hlt : k < len
      · obtain ⟨ha, c⟩ := HR1.out.2 k (by rw [HN.out]; exact hlt)
        subst ha
        rw [Nat.zero_add] at c
        have hki : (k : Int) < (len : Int) := by omega
        have hst : Hid (sl4 (xs.getD k 0) = true → ∀ j, j < k + 1 → sl4 (xs.getD j 0) = true) := Lib.hid (fun h j hj => by
          by_cases e : j = k
          · rw [e]; exact h
          · exact hall.out j (by omega))
        clear hall
        generalize xs.getD k 0 = x at *
        cases hs4 : sl4 x
        · go_wp2_with fail
          refine (isSquareLabel_any x _).mono ?_
          rintro e w' ⟨rfl, rfl⟩
          rw [hs4]
          go_wp2_with (first | ((with_reducible refine store_blk blkSq rfl _ _ rfl (w.heap.size + 1) lq0 lq0 ?_ ?_ HRES.out rfl rfl lq0_one (w.heap.size + 1) (Nat.le_refl _) ?_); exact rfl; exact rfl; intro w4 hg4 hb4 hk4 hs4))
          exact bodyPost_ret (results_blk blkSq rfl _ _ (w.heap.size + 1) _ _ rfl rfl hg4 rfl) rfl ⟨rfl, hB1.trans (hb4.mono (Nat.le_succ _))⟩
        · have HT := Lib.hid (hst.out hs4)
          go_wp2_with fail
          refine (isSquareLabel_any x _).mono ?_
          rintro e w' ⟨rfl, rfl⟩
          rw [hs4]
          go_wp2_with fail
          go_round
          case rel => exact ⟨k + 1, by omega, by go_num, HT⟩
          case measure => simp [intOf]; omega
      · exfalso
        have := all4_yes xs (fun j hj => hall.out j (by rw [HN.out] at hj; omega))
        rw [HL.out] at this
        cases this
  · have hq : ((len : Int) != sqc n) = true := by simpa using hl
    clear hl hL
    go_enter Tryd.func91, Tryd.ntmps91
    go_wp2_with fail
    refine (sqSize_any n h1 h2 _).mono ?_
    rintro e w1 ⟨rfl, hb1⟩
    have hB1 : Below w.heap.size w w1 := Below.trans (by go_grown) (hb1.mono (by simp <;> omega))
    have hm1 : w1.cell? ⟨w.heap.size, 0, none⟩ = some (.int .i64 n) := (hb1.cell (by simp; omega)).trans (by go_simp)
    have hres : w1.heap[w.heap.size + 1]? = some (.cells lq0 61 (0, 0)) := by
      have e := heap_alloc_new (w.alloc (.cells #[.int .i64 n] 57)) (.cells lq0 61)
      rw [World.size_alloc] at e
      exact (hb1.block _ (by simp)).trans e
    have HRES := Lib.hid hres
    have HR1 := Lib.hid (HRD.out _ hB1)
    clear hb1 hres
    generalize sqc n = s at hq
    go_wp2_with (first | ((with_reducible refine store_blk blkSq rfl _ _ rfl (w.heap.size + 1) lq0 lq0 ?_ ?_ HRES.out rfl rfl lq0_one (w.heap.size + 1) (Nat.le_refl _) ?_); exact rfl; exact rfl; intro w4 hg4 hb4 hk4 hs4))
    exact bodyPost_ret (results_blk blkSq rfl _ _ (w.heap.size + 1) _ _ rfl rfl hg4 rfl) rfl ⟨rfl, hB1.trans (hb4.mono (Nat.le_succ _))⟩
theorem lsqOf_yes (n : Int) (xs : List Int) (a : Option Addr) (b len cap : Nat) (w : World) (hn : xs.length = len) (h : Rd w a b 0 xs) (hb0 : len = 0 ∨ b < w.heap.size) (hm : len ≤ 1048576) (hL : sqB n xs = true) :
    Calls Tryd.prog 51 #[.int .i64 n, .slice a len cap] w fun e w' => e = .returned (.tuple #[.agg (lqA n a len cap), .bool true]) ∧ Below w.heap.size w w' := by
  obtain ⟨h1, h2, -, -⟩ := sqB_yes hL
  have hbl : b < w.heap.size ∨ len = 0 := by omega
  have HR := Lib.hid h
  have HN := Lib.hid hn
  have HRD : Hid (∀ W, Below w.heap.size w W → Rd W a b 0 xs) := by
    intro W hB
    refine ⟨HR.out.1, fun j hj => ⟨(HR.out.2 j hj).1, ?_⟩⟩
    rcases hbl with h | h
    · exact (hB.cell (by simpa using h)).trans (HR.out.2 j hj).2
    · rw [HN.out, h] at hj; exact absurd hj (Nat.not_lt_zero _)
  clear h hn hb0
  have HL := Lib.hid hL
  clear hL
  go_enter Tryd.func51, Tryd.ntmps51
  go_wp2_with fail
  refine (squareOf_yes n h1 h2 _).mono ?_
  rintro e w1 ⟨rfl, hb1⟩
  have hB1 := bnext (balloc (Below.refl w.heap.size w) (.cells lq0 61)) hb1
  have HRES := Lib.hid ((hb1.block _ (by simp)).trans (heap_alloc_new w (.cells lq0 61)))
  have hB1' := balloc hB1 (.cells #[.int .i64 n] 57)
  have hz1 : w.heap.size < w1.heap.size := by have := hb1.size; simp at this; omega
  clear hb1
  go_wp2_with fail
  refine (withLabels_yes n xs a b len cap _ HN.out (HRD.out _ hB1') (by have := hB1'.size; omega) hm HL.out).mono ?_
  rintro e w2 ⟨rfl, hb2⟩
  have hB2 := bnext hB1' hb2
  have HRES2 := Lib.hid ((hb2.block w.heap.size (by simp; omega)).trans ((Below.heap_alloc _ _ _ hz1).trans HRES.out))
  clear hb2
  go_wp2_with ((with_reducible refine store_blk blkSq rfl _ _ rfl w.heap.size (lqA n a len cap) lq0 ?_ ?_ HRES2.out rfl (lq_size _ _ _ _) (lq_one _ _ _ _) w.heap.size (Nat.le_refl _) ?_); exact rfl; exact rfl; intro w4 hg4 hb4 hk4 hs4)
  exact bodyPost_ret (results_blk blkSq rfl _ _ w.heap.size _ _ rfl rfl hg4 (lq_size _ _ _ _)) rfl ⟨rfl, hB2.trans hb4⟩
theorem lsqOf_no (n : Int) (xs : List Int) (a : Option Addr) (b len cap : Nat) (w : World) (hn : xs.length = len) (h : Rd w a b 0 xs) (hb0 : len = 0 ∨ b < w.heap.size) (hm : len ≤ 1048576) (hL : sqB n xs = false) :
    Calls Tryd.prog 51 #[.int .i64 n, .slice a len cap] w fun e w' => e = .returned (.tuple #[.agg lq0, .bool false]) ∧ Below w.heap.size w w' := by
  have hbl : b < w.heap.size ∨ len = 0 := by omega
  have HR := Lib.hid h
  have HN := Lib.hid hn
  have HRD : Hid (∀ W, Below w.heap.size w W → Rd W a b 0 xs) := by
    intro W hB
    refine ⟨HR.out.1, fun j hj => ⟨(HR.out.2 j hj).1, ?_⟩⟩
    rcases hbl with h | h
    · exact (hB.cell (by simpa using h)).trans (HR.out.2 j hj).2
    · rw [HN.out, h] at hj; exact absurd hj (Nat.not_lt_zero _)
  clear h hn hb0
  have HL := Lib.hid hL
  clear hL
  by_cases hr : 1 ≤ n ∧ n ≤ 4
  · obtain ⟨h1, h2⟩ := hr
    go_enter Tryd.func51, Tryd.ntmps51
    go_wp2_with fail
    refine (squareOf_yes n h1 h2 _).mono ?_
    rintro e w1 ⟨rfl, hb1⟩
    have hB1 := bnext (balloc (Below.refl w.heap.size w) (.cells lq0 61)) hb1
    have HRES := Lib.hid ((hb1.block _ (by simp)).trans (heap_alloc_new w (.cells lq0 61)))
    have hB1' := balloc hB1 (.cells #[.int .i64 n] 57)
    have hz1 : w.heap.size < w1.heap.size := by have := hb1.size; simp at this; omega
    clear hb1
    go_wp2_with fail
    refine (withLabels_no n xs a b len cap _ h1 h2 HN.out (HRD.out _ hB1') (by have := hB1'.size; omega) hm HL.out).mono ?_
    rintro e w2 ⟨rfl, hb2⟩
    have hB2 := bnext hB1' hb2
    have HRES2 := Lib.hid ((hb2.block w.heap.size (by simp; omega)).trans ((Below.heap_alloc _ _ _ hz1).trans HRES.out))
    clear hb2
    go_wp2_with ((with_reducible refine store_blk blkSq rfl _ _ rfl w.heap.size lq0 lq0 ?_ ?_ HRES2.out rfl rfl lq0_one w.heap.size (Nat.le_refl _) ?_); exact rfl; exact rfl; intro w4 hg4 hb4 hk4 hs4)
    exact bodyPost_ret (results_blk blkSq rfl _ _ w.heap.size _ _ rfl rfl hg4 rfl) rfl ⟨rfl, hB2.trans hb4⟩
  · go_enter Tryd.func51, Tryd.ntmps51
    go_wp2_with fail
    refine (squareOf_no n hr _).mono ?_
    rintro e w1 ⟨rfl, hb1⟩
    have hB1 := bnext (balloc (Below.refl w.heap.size w) (.cells lq0 61)) hb1
    have HRES := Lib.hid ((hb1.block _ (by simp)).trans (heap_alloc_new w (.cells lq0 61)))
    have hB1' := balloc hB1 (.cells #[.int .i64 n] 57)
    have hz1 : w.heap.size < w1.heap.size := by have := hb1.size; simp at this; omega
    have HRES2 := Lib.hid ((Below.heap_alloc w1 (.cells #[.int .i64 n] 57) _ hz1).trans HRES.out)
    clear hb1
    go_wp2_with ((with_reducible refine store_blk blkSq rfl _ _ rfl w.heap.size lq0 lq0 ?_ ?_ HRES2.out rfl rfl lq0_one w.heap.size (Nat.le_refl _) ?_); exact rfl; exact rfl; intro w4 hg4 hb4 hk4 hs4)
    exact bodyPost_ret (results_blk blkSq rfl _ _ w.heap.size _ _ rfl rfl hg4 rfl) rfl ⟨rfl, hB1'.trans hb4⟩
end Go.Proofs.YtcahecohjmahaaaDoor
