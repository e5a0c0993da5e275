import Derived.Test.YtgpikaolgalpbaaSb
import Derived.Test.YtgpikaolgalpbaaZa
namespace Go.Proofs.Ytgpikaolgalpbaa
open Go.RowKit
set_option maxRecDepth 4000
def sqPt (n i : Int) : List Int := [ax n i, ay n i]
set_option maxHeartbeats 800000 in
theorem specSquareAt_yes (n i : Int) (h1 : 1 ≤ n) (h2 : n ≤ 4) (i1 : 0 ≤ i) (i2 : i < 81) (h : okSq n i) (w : World) :
    Calls Try.prog 17 #[.int .i64 n, .int .i64 i] w (Gives w 3 (sqPt n i) true) := by
  go_enter Try.func17, Try.ntmps17
  go_wp2_with fail
  refine (opPoint_yes n i h _).mono ?_
  rintro e w' ⟨rfl, rfl⟩
  go_wp2_with fail
  refine (opAt_any n i h1 h2 i1 i2 _).mono ?_
  rintro e w2 ⟨rfl, hb2⟩
  go_wp2_with fail
  go_ret2
  exact ⟨_, rfl, own_block hb2.size (heap_alloc_new _ _) (by simp [sqPt]) rfl (by simp [maxLen]), balloc hb2 _⟩
set_option maxHeartbeats 800000 in
theorem specSquareAt_no (n i : Int) (h : ¬ okSq n i) (w : World) :
    Calls Try.prog 17 #[.int .i64 n, .int .i64 i] w (Gives w 3 [] false) := by
  go_enter Try.func17, Try.ntmps17
  go_wp2_with fail
  refine (opPoint_no n i h _).mono ?_
  rintro e w' ⟨rfl, rfl⟩
  go_wp2_with fail
  go_ret2
  exact gives_none (Below.refl _ _)
set_option maxHeartbeats 800000 in
theorem implSquareAt_yes (n i : Int) (h1 : 1 ≤ n) (h2 : n ≤ 4) (i1 : 0 ≤ i) (i2 : i < 81) (h : okSq n i) (w : World) :
    Calls Try.prog 18 #[.int .i64 n, .int .i64 i] w (Gives w 3 (sqPt n i) true) := by
  go_enter Try.func18, Try.ntmps18
  go_wp2_with fail
  refine (squareOf_yes n (by omega) (by omega) _).mono ?_
  rintro e w1 ⟨rfl, hb1⟩
  go_wp2_with fail
  refine (sqHasPoint_yes n i h _).mono ?_
  rintro e w2 ⟨rfl, hb2⟩
  have hm2 : w2.cell? ⟨w1.heap.size, 0, none⟩ = some (.int .i64 n) := by rw [hb2.cell (by simp)]; go_cell
  go_wp2_with fail
  refine (sqAt_any n i h1 h2 i1 i2 _).mono ?_
  rintro e w3 ⟨rfl, hb3⟩
  go_wp2_with fail
  go_ret2
  have hB := bnext (bnext (balloc hb1 _) hb2) hb3
  exact ⟨_, rfl, own_block hB.size (heap_alloc_new _ _) (by simp [sqPt]) rfl (by simp [maxLen]), balloc hB _⟩
set_option maxHeartbeats 800000 in
theorem implSquareAt_no (n i : Int) (h : ¬ okSq n i) (w : World) :
    Calls Try.prog 18 #[.int .i64 n, .int .i64 i] w (Gives w 3 [] false) := by
  by_cases hn : 1 ≤ n ∧ n ≤ 4
  · go_enter Try.func18, Try.ntmps18
    go_wp2_with fail
    refine (squareOf_yes n hn.1 hn.2 _).mono ?_
    rintro e w1 ⟨rfl, hb1⟩
    go_wp2_with fail
    refine (sqHasPoint_no n i hn.1 hn.2 h _).mono ?_
    rintro e w2 ⟨rfl, hb2⟩
    go_wp2_with fail
    go_ret2
    exact gives_none (bnext (balloc hb1 _) hb2)
  · clear h
    go_enter Try.func18, Try.ntmps18
    go_wp2_with fail
    refine (squareOf_no n hn _).mono ?_
    rintro e w1 ⟨rfl, hb1⟩
    go_wp2_with fail
    go_ret2
    exact gives_none (balloc hb1 _)
/-- The law of SquareAt, over what both sides answer. -/
theorem lawOf_SquareAt (n i : Int) (e1 e2 : TypeId) (xs : List Int) (ok : Bool) (hlen : xs.length ≤ 1000)
    (hs : ∀ w, Calls Try.prog 17 #[.int .i64 n, .int .i64 i] w (Gives w e1 xs ok))
    (hi : ∀ w, Calls Try.prog 18 #[.int .i64 n, .int .i64 i] w (Gives w e2 xs ok)) (w : World) :
    Calls Try.prog 4 #[.int .i64 n, .int .i64 i] w fun e w' => e = .returned (.bool true) ∧ Below w.heap.size w w' := by
  have HS := Lib.hid hs
  have HI := Lib.hid hi
  clear hs hi
  have hok : (ok != ok) = false := by simp
  go_enter Try.func4, Try.ntmps4
  go_wp2_with fail
  refine (HS.out _).mono ?_
  rintro e w1 ⟨v0, rfl, ho0, hb0⟩
  obtain ⟨-, a0, c0, b0, rfl, hx0, hr0⟩ := own_shape ho0
  go_wp2_with fail
  refine (HI.out _).mono ?_
  rintro e w2 ⟨v1, rfl, ho1, hb1⟩
  obtain ⟨-, a1, c1, b1, rfl, hx1, hr1⟩ := own_shape ho1
  have ho0' := own_now ho0 hb1
  have hr0' : Rd w2 a0 b0 0 xs := hr0.below hb1 (by
    rcases hx0 with h | h
    · exact .inl h
    · exact .inr (own_lt ho0 b0 (by rw [h]; rfl)))
  have hlt0 := own_lt ho0
  have hB2 := hb0.trans (hb1.mono hb0.size)
  clear hr0 ho0
  go_wp2_with fail
  refine (eqIntS_same xs a1 a0 b1 0 b0 0 _ _ c1 c0 w2 rfl rfl hr1 hr0').mono ?_
  rintro e w3 ⟨rfl, hs3⟩
  have ho1' := own_same ho1 hs3
  have ho0'' := own_same ho0' hs3
  have hB3 := below_same hB2 hs3
  have hm3 : Below w1.heap.size w1 w3 := below_same hb1 hs3
  clear hr0' hr1 ho1 ho0' hB2
  go_wp2_with fail
  refine (markIntS_any e2 xs a1 w1.heap.size _ c1 1 w3 ho1' (by omega) (by omega)).mono ?_
  rintro e w4 ⟨rfl, ho1m, hb4⟩
  obtain ⟨-, a1', c1', b1', hv, hx1', hr4⟩ := own_shape ho1m
  simp only [Value.slice.injEq] at hv
  obtain ⟨rfl, -, rfl⟩ := hv
  have hl4 : (mkd 1 xs.length xs).length = xs.length := mkd_len _ _ _ (Nat.le_refl _)
  have hB4 := hB3.trans (hb4.mono hb0.size)
  have ho0m := own_later ho0'' hlt0 hb4
  have hw4 : w1.heap.size ≤ w4.heap.size := Nat.le_trans hm3.size hb4.size
  clear ho1' ho0'' hB3
  have HL := Lib.hid hl4
  clear hl4
  go_wp2_with fail
  refine (heldIntS_yes (mkd 1 xs.length xs) a1 b1' 0 _ c1 1 w4 HL.out hr4 (by omega) (by rw [HL.out]; omega) (fun j hj => mkd_all 1 xs j (by rw [HL.out] at hj; exact hj))).mono ?_
  rintro e w4 ⟨rfl, rfl⟩
  go_wp2_with fail
  refine (HI.out _).mono ?_
  rintro e w5 ⟨v2, rfl, ho2, hb5⟩
  obtain ⟨-, a2, c2, b2, rfl, hx2, hr2⟩ := own_shape ho2
  have ho0n := own_now ho0m hb5
  have hr5 : Rd w5 a1 b1' 0 (mkd 1 xs.length xs) := hr4.below hb5 (by
    rcases hx1' with h | h
    · exact .inl h
    · exact .inr (own_lt ho1m b1' (by rw [h]; rfl)))
  obtain ⟨-, a0', c0', b0', hv, hx0', hr0⟩ := own_shape ho0n
  simp only [Value.slice.injEq] at hv
  obtain ⟨rfl, -, rfl⟩ := hv
  have hB5 := hB4.trans (hb5.mono hB4.size)
  clear ho0n ho0m ho1m hr4 hB4
  go_wp2_with fail
  refine (eqIntS_same xs a2 a0 b2 0 b0' 0 _ _ c2 c0 w5 rfl rfl hr2 hr0).mono ?_
  rintro e w6 ⟨rfl, hs6⟩
  have hr6 := hr5.same hs6
  have hB6 := below_same hB5 hs6
  clear hr0 hr2 hr5 hB5 ho2
  go_wp2_with fail
  refine (heldIntS_yes (mkd 1 xs.length xs) a1 b1' 0 _ c1 1 w6 HL.out hr6 (by omega) (by rw [HL.out]; omega) (fun j hj => mkd_all 1 xs j (by rw [HL.out] at hj; exact hj))).mono ?_
  rintro e w6 ⟨rfl, rfl⟩
  go_wp2_with fail
  go_ret
  exact ⟨rfl, hB6⟩
theorem law_SquareAt (n : Int) (_ : (Lit.int .i64 n).wf = true) (i : Int) (_ : (Lit.int .i64 i).wf = true) (w : World) :
    Calls Try.prog 4 #[.int .i64 n, .int .i64 i] w fun e w' => e = .returned (.bool true) ∧ Below w.heap.size w w' := by
  by_cases h : okSq n i
  · have h' := h
    obtain ⟨h1, h2, h3, h4⟩ := h
    have hc := (sqc_bd h1 h2).2
    exact lawOf_SquareAt n i _ _ (sqPt n i) _ (by simp [sqPt]) (fun w => specSquareAt_yes n i h1 h2 h3 (by omega) h' w) (fun w => implSquareAt_yes n i h1 h2 h3 (by omega) h' w) w
  · exact lawOf_SquareAt n i _ _ _ _ (by simp) (fun w => specSquareAt_no n i h w) (fun w => implSquareAt_no n i h w) w
end Go.Proofs.Ytgpikaolgalpbaa
