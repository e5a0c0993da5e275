import Derived.Test.YtgblcohgnagpcaaIx
import Derived.Test.YtgblcohgnagpcaaZd
import Derived.Test.YtgblcohgnagpcaaS3b
namespace Go.Proofs.Ytgblcohgnagpcaa
open Go.RowKit
set_option maxRecDepth 4000
theorem ptI_ix (n : Nat) (xs : List Int) (h : ptI n xs = true) : xs.length = 3 ∧ allB 0 n xs = true ∧ xs.getD 0 0 + xs.getD 1 0 + xs.getD 2 0 = n := by
  simp only [ptI, Bool.and_eq_true, decide_eq_true_eq, beq_iff_eq] at h
  exact ⟨h.1, h.2.1, h.2.2⟩
theorem ix_ptI (n : Nat) (xs : List Int) (h1 : xs.length = 3) (h2 : allB 0 n xs = true) (h3 : xs.getD 0 0 + xs.getD 1 0 + xs.getD 2 0 = n) : ptI n xs = true := by
  simp only [ptI, Bool.and_eq_true, decide_eq_true_eq, beq_iff_eq]
  exact ⟨h1, h2, h3⟩
set_option maxHeartbeats 800000 in
theorem implIx (n : Int) (xs : List Int) (a : Option Addr) (b len cap : Nat) (w : World) (hn : xs.length = len) (hlen : len ≤ 1048576) (h : Rd w a b 0 xs) (hb0 : a = none ∨ b < w.heap.size) :
    Calls Try.prog 22 #[.int .i64 n, .slice a len cap] w (Ix w n xs) := by
  subst hn
  have hR : RdS w w.heap.size a xs := ⟨b, 0, h, by
    rcases hb0 with e | e
    · subst e
      by_cases h0 : xs.length = 0
      · exact .inl h0
      · have := (h.2 0 (by omega)).1
        cases this
    · exact .inr e⟩
  have HR := Lib.hid (fun w' (hb : Below w.heap.size w w') => (rds_later hR hb : RdS w' w.heap.size a xs))
  clear h hb0 hR
  by_cases hs : 1 ≤ n ∧ n ≤ 8
  · obtain ⟨h1, h2⟩ := hs
    obtain ⟨n, rfl⟩ := Int.eq_ofNat_of_zero_le (show 0 ≤ n by omega)
    have HSP := Lib.hid (fun w' (hb : Below w.heap.size w w') => spotOf_any n (by omega) xs a cap _ w' (HR.out w' hb) hb.size)
    cases hp : ptI n xs
    · have HNO : Hid (¬ (1 ≤ (n : Int) ∧ (n : Int) ≤ 8 ∧ xs.length = 3 ∧ allB 0 n xs = true ∧ xs.getD 0 0 + xs.getD 1 0 + xs.getD 2 0 = n)) := Lib.hid (fun hh => by
        have := ix_ptI n xs hh.2.2.1 hh.2.2.2.1 hh.2.2.2.2
        rw [hp] at this
        cases this)
      rw [hp] at HSP
      clear hp
      go_enter Try.func22, Try.ntmps22
      go_wp2_with fail
      refine (meshOf_yes n (by omega) (by omega) _).mono ?_
      rintro e w1 ⟨rfl, hb1⟩
      have hB1 := balloc hb1 (.cells #[.int .i64 n] 44)
      go_wp2_with fail
      refine (HSP.out _ hB1).mono ?_
      rintro e w2 ⟨x, y, z, rfl, -, hb2⟩
      have hB2 := bnext hB1 hb2
      go_wp2_with fail
      go_ret2
      exact ix_no HNO.out (balloc hB2 _)
    · obtain ⟨p1, p2, p3⟩ := ptI_ix n xs hp
      have HY : Hid (1 ≤ (n : Int) ∧ (n : Int) ≤ 8 ∧ xs.length = 3 ∧ allB 0 n xs = true ∧ xs.getD 0 0 + xs.getD 1 0 + xs.getD 2 0 = n) := Lib.hid ⟨by omega, by omega, p1, p2, p3⟩
      have b0 := allB_at p2 0 (by omega)
      have b2 := allB_at p2 2 (by omega)
      have HX := Lib.hid (fun w => indexOf_any n (xs.getD 0 0) (xs.getD 1 0) (xs.getD 2 0) (by omega) b0.1 b0.2 b2.1 (by omega) w)
      rw [hp] at HSP
      clear hp p1 p2 p3 b0 b2
      go_enter Try.func22, Try.ntmps22
      go_wp2_with fail
      refine (meshOf_yes n (by omega) (by omega) _).mono ?_
      rintro e w1 ⟨rfl, hb1⟩
      have hB1 := balloc hb1 (.cells #[.int .i64 n] 44)
      have hg1 := heap_alloc_new w1 (.cells #[.int .i64 n] 44)
      have hz1 : (w1.alloc (.cells #[.int .i64 n] 44)).heap.size = w1.heap.size + 1 := by simp
      go_wp2_with fail
      refine (HSP.out _ hB1).mono ?_
      rintro e w2 ⟨x, y, z, rfl, he, hb2⟩
      obtain ⟨rfl, rfl, rfl⟩ := he trivial
      have hg2 := (hb2.block w1.heap.size (by omega)).trans hg1
      have hm2 := cell_of_row w2 w1.heap.size 0 _ _ (0, 0) hg2
      have hlt : w1.heap.size < w2.heap.size := (Array.getElem?_eq_some_iff.1 hg2).1
      have hB2 := bnext hB1 hb2
      clear hg1 hg2 hb1 hb2 hz1 hB1 he
      generalize hx0 : xs.getD 0 0 = x at *
      generalize hx1 : xs.getD 1 0 = y at *
      generalize hx2 : xs.getD 2 0 = z at *
      have HX0 := Lib.hid hx0
      have HX2 := Lib.hid hx2
      have HX1 := Lib.hid hx1
      clear hx0 hx1 hx2
      go_wp2_with fail
      refine (HX.out _).mono ?_
      rintro e w3 ⟨rfl, hb3⟩
      go_wp2_with fail
      go_ret2
      have := ix_yes (w := w) (w' := w3) (xs := xs) (n := n) (by rw [HX0.out, HX1.out, HX2.out]; exact HY.out) (bnext (balloc hB2 _) hb3)
      rw [HX0.out, HX2.out] at this
      exact this
  · have HS := Lib.hid hs
    clear hs
    go_enter Try.func22, Try.ntmps22
    go_wp2_with fail
    refine (meshOf_no n HS.out _).mono ?_
    rintro e w1 ⟨rfl, hb1⟩
    have hB1 := balloc hb1 (.cells #[.int .i64 n] 44)
    go_wp2_with fail
    refine (spotOf_big n xs a cap _ _ (HR.out _ hB1) hB1.size).mono ?_
    rintro e w2 ⟨x, y, z, ok, rfl, hb2⟩
    have hB2 := bnext hB1 hb2
    go_wp2_with fail
    go_ret2
    exact ix_no (fun h => HS.out ⟨h.1, h.2.1⟩) (balloc hB2 _)
end Go.Proofs.Ytgblcohgnagpcaa
