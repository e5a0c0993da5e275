import Derived.Test.YtgpikaolgalpbaaSf
namespace Go.Proofs.Ytgpikaolgalpbaa
open Go.RowKit
set_option maxRecDepth 4000
set_option maxHeartbeats 800000 in
theorem specSquareBorder_yes (n : Nat) (h1 : 1 ≤ n) (h2 : n ≤ 4) (w : World) :
    Calls Try.prog 29 #[.int .i64 n] w (Gives w 3 (bol n (8 * n)) true) := by
  go_enter Try.func29, Try.ntmps29
  go_wp2_with fail
  refine (opReach_yes n (by omega) (by omega) _).mono ?_
  rintro e w' ⟨rfl, rfl⟩
  go_wp2_with fail
  refine (opBorder_any n h1 h2 _).mono ?_
  rintro e w2 ⟨v, rfl, ho, hb⟩
  obtain ⟨-, a, cap, b, rfl, -, -⟩ := own_shape ho
  go_wp2_with fail
  go_ret2
  exact ⟨_, rfl, ho, hb⟩
theorem specSquareBorder_no (n : Int) (h : ¬ (1 ≤ n ∧ n ≤ 4)) (w : World) :
    Calls Try.prog 29 #[.int .i64 n] w (Gives w 3 [] false) := by
  go_enter Try.func29, Try.ntmps29
  go_wp2_with fail
  refine (opReach_no n h _).mono ?_
  rintro e w' ⟨rfl, rfl⟩
  go_wp2_with fail
  go_ret2
  exact gives_none (Below.refl _ _)
set_option maxHeartbeats 800000 in
theorem implSquareBorder_yes (n : Nat) (h1 : 1 ≤ n) (h2 : n ≤ 4) (w : World) :
    Calls Try.prog 30 #[.int .i64 n] w (Gives w 3 (bol n (8 * n)) true) := by
  go_enter Try.func30, Try.ntmps30
  go_wp2_with fail
  refine (squareOf_yes n (by omega) (by omega) _).mono ?_
  rintro e w1 ⟨rfl, hb1⟩
  go_wp2_with fail
  refine (sqBorder_any n h1 h2 _).mono ?_
  rintro e w2 ⟨v, rfl, ho, hb⟩
  obtain ⟨-, a, cap, b, rfl, -, -⟩ := own_shape ho
  have hB := bnext (balloc hb1 _) hb
  go_wp2_with fail
  go_ret2
  exact ⟨_, rfl, own_lo ho (by have := hb1.size; simp; omega), hB⟩
theorem implSquareBorder_no (n : Int) (h : ¬ (1 ≤ n ∧ n ≤ 4)) (w : World) :
    Calls Try.prog 30 #[.int .i64 n] w (Gives w 3 [] false) := by
  go_enter Try.func30, Try.ntmps30
  go_wp2_with fail
  refine (squareOf_no n h _).mono ?_
  rintro e w1 ⟨rfl, hb1⟩
  go_wp2_with fail
  go_ret2
  exact gives_none (balloc hb1 _)
/-- The law of SquareBorder, over what both sides answer. -/
theorem lawOf_SquareBorder (n : Int) (e1 e2 : TypeId) (xs : List Int) (ok : Bool) (hlen : xs.length ≤ 1000)
    (hs : ∀ w, Calls Try.prog 29 #[.int .i64 n] w (Gives w e1 xs ok))
    (hi : ∀ w, Calls Try.prog 30 #[.int .i64 n] w (Gives w e2 xs ok)) (w : World) :
    Calls Try.prog 7 #[.int .i64 n] w fun e w' => e = .returned (.bool true) ∧ Below w.heap.size w w' := by
  have HS := Lib.hid hs
  have HI := Lib.hid hi
  clear hs hi
  have hok : (ok != ok) = false := by simp
  go_enter Try.func7, Try.ntmps7
  go_wp2_with fail
  refine (HS.out _).mono ?_
  rintro e w1 ⟨v0, rfl, ho0, hb0⟩
  obtain ⟨-, a0, c0, b0, rfl, hx0, hr0⟩ := own_shape ho0
  go_wp2_with fail
  refine (HI.out _).mono ?_
  rintro e w2 ⟨v1, rfl, ho1, hb1⟩
  obtain ⟨-, a1, c1, b1, rfl, hx1, hr1⟩ := own_shape ho1
  have ho0' := own_now ho0 hb1
  have hr0' : Rd w2 a0 b0 0 xs := hr0.below hb1 (by
    rcases hx0 with h | h
    · exact .inl h
    · exact .inr (own_lt ho0 b0 (by rw [h]; rfl)))
  have hlt0 := own_lt ho0
  have hB2 := hb0.trans (hb1.mono hb0.size)
  clear hr0 ho0
  go_wp2_with fail
  refine (eqIntS_same xs a1 a0 b1 0 b0 0 _ _ c1 c0 w2 rfl rfl hr1 hr0').mono ?_
  rintro e w3 ⟨rfl, hs3⟩
  have ho1' := own_same ho1 hs3
  have ho0'' := own_same ho0' hs3
  have hB3 := below_same hB2 hs3
  have hm3 : Below w1.heap.size w1 w3 := below_same hb1 hs3
  clear hr0' hr1 ho1 ho0' hB2
  go_wp2_with fail
  refine (markIntS_any e2 xs a1 w1.heap.size _ c1 1 w3 ho1' (by omega) (by omega)).mono ?_
  rintro e w4 ⟨rfl, ho1m, hb4⟩
  obtain ⟨-, a1', c1', b1', hv, hx1', hr4⟩ := own_shape ho1m
  simp only [Value.slice.injEq] at hv
  obtain ⟨rfl, -, rfl⟩ := hv
  have hl4 : (mkd 1 xs.length xs).length = xs.length := mkd_len _ _ _ (Nat.le_refl _)
  have hB4 := hB3.trans (hb4.mono hb0.size)
  have ho0m := own_later ho0'' hlt0 hb4
  have hw4 : w1.heap.size ≤ w4.heap.size := Nat.le_trans hm3.size hb4.size
  clear ho1' ho0'' hB3
  have HL := Lib.hid hl4
  clear hl4
  go_wp2_with fail
  refine (heldIntS_yes (mkd 1 xs.length xs) a1 b1' 0 _ c1 1 w4 HL.out hr4 (by omega) (by rw [HL.out]; omega) (fun j hj => mkd_all 1 xs j (by rw [HL.out] at hj; exact hj))).mono ?_
  rintro e w4 ⟨rfl, rfl⟩
  go_wp2_with fail
  refine (HI.out _).mono ?_
  rintro e w5 ⟨v2, rfl, ho2, hb5⟩
  obtain ⟨-, a2, c2, b2, rfl, hx2, hr2⟩ := own_shape ho2
  have ho0n := own_now ho0m hb5
  have hr5 : Rd w5 a1 b1' 0 (mkd 1 xs.length xs) := hr4.below hb5 (by
    rcases hx1' with h | h
    · exact .inl h
    · exact .inr (own_lt ho1m b1' (by rw [h]; rfl)))
  obtain ⟨-, a0', c0', b0', hv, hx0', hr0⟩ := own_shape ho0n
  simp only [Value.slice.injEq] at hv
  obtain ⟨rfl, -, rfl⟩ := hv
  have hB5 := hB4.trans (hb5.mono hB4.size)
  clear ho0n ho0m ho1m hr4 hB4
  go_wp2_with fail
  refine (eqIntS_same xs a2 a0 b2 0 b0' 0 _ _ c2 c0 w5 rfl rfl hr2 hr0).mono ?_
  rintro e w6 ⟨rfl, hs6⟩
  have hr6 := hr5.same hs6
  have hB6 := below_same hB5 hs6
  clear hr0 hr2 hr5 hB5 ho2
  go_wp2_with fail
  refine (heldIntS_yes (mkd 1 xs.length xs) a1 b1' 0 _ c1 1 w6 HL.out hr6 (by omega) (by rw [HL.out]; omega) (fun j hj => mkd_all 1 xs j (by rw [HL.out] at hj; exact hj))).mono ?_
  rintro e w6 ⟨rfl, rfl⟩
  go_wp2_with fail
  go_ret
  exact ⟨rfl, hB6⟩
theorem law_SquareBorder (n : Int) (_ : (Lit.int .i64 n).wf = true) (w : World) :
    Calls Try.prog 7 #[.int .i64 n] w fun e w' => e = .returned (.bool true) ∧ Below w.heap.size w w' := by
  by_cases h : 1 ≤ n ∧ n ≤ 4
  · obtain ⟨h1, h2⟩ := h
    obtain ⟨n, rfl⟩ := Int.eq_ofNat_of_zero_le (show 0 ≤ n by omega)
    exact lawOf_SquareBorder n _ _ (bol n (8 * n)) _ (by have := bol_len n (8 * n); omega) (fun w => specSquareBorder_yes n (by omega) (by omega) w) (fun w => implSquareBorder_yes n (by omega) (by omega) w) w
  · exact lawOf_SquareBorder n _ _ _ _ (by simp) (fun w => specSquareBorder_no n h w) (fun w => implSquareBorder_no n h w) w
end Go.Proofs.Ytgpikaolgalpbaa
