import Derived.Test.YtgblcohgnagpcaaIz
namespace Go.Proofs.Ytgblcohgnagpcaa
open Go.RowKit
set_option maxRecDepth 4000
set_option maxHeartbeats 800000 in
theorem law_IndexOfPoint (n : Int) (a : Option Addr) (len cap : Nat) (zs : List Int) (w : World) (_ : (Lit.int .i64 n).wf = true) (hrow : IsRow w a len cap zs) :
    Calls Try.prog 5 #[.int .i64 n, .slice a len cap] w fun e w' => e = .returned (.bool true) ∧ Below w.heap.size w w' := by
  obtain ⟨hlen, b, off, hr, hbb⟩ := isRow_rd hrow
  generalize zs.take len = xs at hlen hr
  have hm := hr.1
  unfold maxLen at hm
  rw [hlen] at hm
  have HR := Lib.hid hr
  have HL := Lib.hid hlen
  clear hr hrow hlen
  by_cases hbig : (1048576 : Int) < (len : Int)
  · go_enter Try.func5, Try.ntmps5
    go_wp2_with fail
    go_ret
    exact ⟨rfl, Below.refl _ _⟩
  · have hsm : len ≤ 1048576 := by omega
    go_enter Try.func5, Try.ntmps5
    go_wp2_with fail
    refine (toIntS_any xs a b off len cap w HL.out HR.out hbb hsm).mono ?_
    rintro e w1 ⟨v1, rfl, ho1, hb1⟩
    obtain ⟨-, a1, c1, b1, rfl, hx1, hr1⟩ := own_shape ho1
    go_wp2_with fail
    refine (specIx n xs a1 b1 _ c1 w1 rfl (by rw [HL.out]; exact hsm) hr1).mono ?_
    rintro e w2 ⟨rfl, hb2⟩
    have hB2 := bnext hb1 hb2
    have hR2 : Rd w2 a b off xs := by
      refine ⟨HR.out.1, fun j hj => ⟨(HR.out.2 j hj).1, ?_⟩⟩
      rcases hbb with h | h
      · rw [HL.out, h] at hj; exact absurd hj (Nat.not_lt_zero _)
      · exact (hB2.cell h).trans (HR.out.2 j hj).2
    have hbb2 : len = 0 ∨ b < w2.heap.size := by
      rcases hbb with h | h
      · exact .inl h
      · exact .inr (by have := hB2.size; omega)
    have HR2 := Lib.hid hR2
    clear hR2 ho1 hr1 hb1 hb2
    go_wp2_with fail
    refine (toIntS_any xs a b off len cap w2 HL.out HR2.out hbb2 hsm).mono ?_
    rintro e w3 ⟨v3, rfl, ho3, hb3⟩
    obtain ⟨-, a3, c3, b3, rfl, hx3, hr3⟩ := own_shape ho3
    go_wp2_with fail
    refine (implIx n xs a3 b3 _ c3 w3 rfl (by rw [HL.out]; exact hsm) hr3 (by
      rcases hx3 with h | h
      · exact .inl h
      · exact .inr (own_lt ho3 b3 (by rw [h]; rfl)))).mono ?_
    rintro e w4 ⟨rfl, hb4⟩
    have hB4 := bnext (bnext hB2 hb3) hb4
    have ho4 := own_now ho3 hb4
    obtain ⟨-, a3', c3', b3', hv, hx3', hr4⟩ := own_shape ho4
    simp only [Value.slice.injEq] at hv
    obtain ⟨rfl, -, rfl⟩ := hv
    have hR4 : Rd w4 a b off xs := by
      refine ⟨HR.out.1, fun j hj => ⟨(HR.out.2 j hj).1, ?_⟩⟩
      rcases hbb with h | h
      · rw [HL.out, h] at hj; exact absurd hj (Nat.not_lt_zero _)
      · exact (hB4.cell h).trans (HR.out.2 j hj).2
    have hbb4 : len = 0 ∨ b < w4.heap.size := by
      rcases hbb with h | h
      · exact .inl h
      · exact .inr (by have := hB4.size; omega)
    have HR4 := Lib.hid hR4
    have hok : (ixOk n xs != ixOk n xs) = false := by simp
    have hat : (ixAt n xs != ixAt n xs) = false := by simp
    generalize ixOk n xs = ok at *
    generalize ixAt n xs = at' at *
    clear hR4 ho3 hr3 hb3 hb4
    go_wp2_with fail
    refine (toIntS_any xs a b off len cap w4 HL.out HR4.out hbb4 hsm).mono ?_
    rintro e w5 ⟨v5, rfl, ho5, hb5⟩
    obtain ⟨-, a5, c5, b5, rfl, hx5, hr5⟩ := own_shape ho5
    have hr45 : Rd w5 a3 b3' 0 xs := hr4.below hb5 (by
      rcases hx3' with h | h
      · exact .inl h
      · exact .inr (own_lt ho4 b3' (by rw [h]; rfl)))
    have hB5 := bnext hB4 hb5
    go_wp2_with fail
    refine (eqIntS_same xs a3 a5 b3' 0 b5 0 _ _ c3 c5 w5 rfl rfl hr45 hr5).mono ?_
    rintro e w6 ⟨rfl, hs6⟩
    have hB6 := below_same hB5 hs6
    go_wp2_with fail
    go_ret
    exact ⟨rfl, hB6⟩
end Go.Proofs.Ytgblcohgnagpcaa
