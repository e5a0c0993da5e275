import Derived.Test.YtcahecohjmahaaaDoorMl
namespace Go.Proofs.YtcahecohjmahaaaDoor
open Go.RowKit
set_option maxRecDepth 4000
theorem labB_side {n : Int} {xs : List Int} (h : ¬ (1 ≤ n ∧ n ≤ 8)) : labB n xs = false := by
  simp only [labB, decide_eq_false_iff_not]
  exact fun hh => h ⟨hh.1, hh.2.1⟩
set_option maxHeartbeats 800000 in
theorem labelledOf_any (n : Int) (xs : List Int) (a : Option Addr) (b len cap : Nat) (w : World) (hn : xs.length = len) (hsm : len ≤ 1048576) (h : Rd w a b 0 xs) (hb0 : len = 0 ∨ b < w.heap.size) :
    Calls Tryd.prog 79 #[.int .i64 n, .slice a len cap] w fun e w' => e = .returned (.tuple #[.agg (if labB n xs then (labL n.toNat xs).toArray else zeroA), .bool (labB n xs)]) ∧ Below w.heap.size w w' := by
  by_cases hs : 1 ≤ n ∧ n ≤ 8
  · obtain ⟨h1, h2⟩ := hs
    obtain ⟨n, rfl⟩ := Int.eq_ofNat_of_zero_le (show 0 ≤ n by omega)
    have HRD : Hid (∀ W, Below w.heap.size w W → Rd W a b 0 xs) := by
      intro W hB
      refine ⟨h.1, fun j hj => ⟨(h.2 j hj).1, ?_⟩⟩
      rcases hb0 with h' | h'
      · rw [hn, h'] at hj; exact absurd hj (Nat.not_lt_zero _)
      · exact (hB.cell h').trans (h.2 j hj).2
    have HN := Lib.hid hn
    clear h hn
    rw [Int.toNat_natCast]
    cases hL : labB n xs
    · have HL := Lib.hid hL
      clear hL
      simp only [Bool.false_eq_true, if_false]
      go_enter Tryd.func79, Tryd.ntmps79
      go_wp2_with (with_reducible refine alloc_lab rfl rfl ?_)
      refine (meshOf_yes n (by omega) (by omega) _).mono ?_
      rintro e w1 ⟨rfl, hb1⟩
      have hg1 : Hid (w1.heap[w.heap.size]? = some (.cells zeroA 100 (0, 0))) := (hb1.block _ (by simp)).trans (heap_alloc_new _ _)
      have hB0 := bnext (balloc (Below.refl w.heap.size w) (.cells zeroA 100)) hb1
      have hlt1 : w.heap.size < w1.heap.size := by have := hb1.size; simp at this; omega
      have hB1 := balloc hB0 (.cells #[.int .i64 n] 97)
      have hz1 := hB1.size
      have hbb : len = 0 ∨ b < (w1.alloc (.cells #[.int .i64 n] 97)).heap.size := by
        rcases hb0 with h | h
        · exact .inl h
        · exact .inr (by omega)
      go_wp2_with fail
      refine (withLabels_no n xs a b 0 len cap (by omega) (by omega) _ HN.out (HRD.out _ hB1) hbb (by rw [← HN.out]; exact labB_no (by omega) (by omega) HL.out) hsm).mono ?_
      rintro e w2 ⟨rfl, hb2⟩
      have hB2 := bnext hB1 hb2
      have hg2 : Hid (w2.heap[w.heap.size]? = some (.cells zeroA 100 (0, 0))) := (hb2.block _ (by simp; omega)).trans ((Below.heap_alloc w1 _ _ hlt1).trans hg1.out)
      go_wp2_with (first | ((with_reducible refine store_lab rfl _ _ rfl w.heap.size zeroA zeroA ?_ ?_ hg2.out zeroA_size zeroA_size zeroA_one w.heap.size (Nat.le_refl _) ?_); exact rfl; exact rfl; intro w3 hg3 hb3; have hB3 := hB2.trans hb3))
      exact bodyPost_ret (results_lab rfl _ _ w.heap.size _ _ rfl rfl hg3 zeroA_size) rfl ⟨rfl, hB3⟩
    · obtain ⟨_, _, hl, hA⟩ := labB_yes hL
      have HA := Lib.hid hA
      have HL := Lib.hid hl
      clear hL hl hA
      simp only [if_true]
      have hsz := labL_size n xs (by have := HL.out; have := (Pr.cnt_le n (by omega)).1; omega)
      go_enter Tryd.func79, Tryd.ntmps79
      go_wp2_with (with_reducible refine alloc_lab rfl rfl ?_)
      refine (meshOf_yes n (by omega) (by omega) _).mono ?_
      rintro e w1 ⟨rfl, hb1⟩
      have hg1 : Hid (w1.heap[w.heap.size]? = some (.cells zeroA 100 (0, 0))) := (hb1.block _ (by simp)).trans (heap_alloc_new _ _)
      have hB0 := bnext (balloc (Below.refl w.heap.size w) (.cells zeroA 100)) hb1
      have hlt1 : w.heap.size < w1.heap.size := by have := hb1.size; simp at this; omega
      have hB1 := balloc hB0 (.cells #[.int .i64 n] 97)
      have hz1 := hB1.size
      have hbb : len = 0 ∨ b < (w1.alloc (.cells #[.int .i64 n] 97)).heap.size := by
        rcases hb0 with h | h
        · exact .inl h
        · exact .inr (by omega)
      go_wp2_with fail
      refine (withLabels_yes n xs a b 0 len cap (by omega) (by omega) _ HN.out (HRD.out _ hB1) hbb (by rw [← HN.out]; exact HL.out) HA.out).mono ?_
      rintro e w2 ⟨rfl, hb2⟩
      have hB2 := bnext hB1 hb2
      have hg2 : Hid (w2.heap[w.heap.size]? = some (.cells zeroA 100 (0, 0))) := (hb2.block _ (by simp; omega)).trans ((Below.heap_alloc w1 _ _ hlt1).trans hg1.out)
      go_wp2_with (first | ((with_reducible refine store_lab rfl _ _ rfl w.heap.size (labL n xs).toArray zeroA ?_ ?_ hg2.out zeroA_size hsz (labL_one _ _) w.heap.size (Nat.le_refl _) ?_); exact rfl; exact rfl; intro w3 hg3 hb3; have hB3 := hB2.trans hb3))
      exact bodyPost_ret (results_lab rfl _ _ w.heap.size _ _ rfl rfl hg3 hsz) rfl ⟨rfl, hB3⟩
  · have hlb : labB n xs = false := labB_side hs
    rw [hlb]
    simp only [Bool.false_eq_true, if_false]
    have HS := Lib.hid hs
    clear h hs hlb
    go_enter Tryd.func79, Tryd.ntmps79
    go_wp2_with (with_reducible refine alloc_lab rfl rfl ?_)
    refine (meshOf_no n HS.out _).mono ?_
    rintro e w1 ⟨rfl, hb1⟩
    have hg1 : Hid (w1.heap[w.heap.size]? = some (.cells zeroA 100 (0, 0))) := (hb1.block _ (by simp)).trans (heap_alloc_new _ _)
    have hB0 := bnext (balloc (Below.refl w.heap.size w) (.cells zeroA 100)) hb1
    have hlt1 : w.heap.size < w1.heap.size := by have := hb1.size; simp at this; omega
    have hB1 := balloc hB0 (.cells #[.int .i64 n] 97)
    have hg2 : Hid ((w1.alloc (.cells #[.int .i64 n] 97)).heap[w.heap.size]? = some (.cells zeroA 100 (0, 0))) := (Below.heap_alloc w1 _ _ hlt1).trans hg1.out
    go_wp2_with (first | (with_reducible refine build0_lab rfl rfl ?_) | ((with_reducible refine store_lab rfl _ _ rfl w.heap.size zeroA zeroA ?_ ?_ hg2.out zeroA_size zeroA_size zeroA_one w.heap.size (Nat.le_refl _) ?_); exact rfl; exact rfl; intro w3 hg3 hb3; have hB3 := hB1.trans hb3))
    exact bodyPost_ret (results_lab rfl _ _ w.heap.size _ _ rfl rfl hg3 zeroA_size) rfl ⟨rfl, hB3⟩
end Go.Proofs.YtcahecohjmahaaaDoor
