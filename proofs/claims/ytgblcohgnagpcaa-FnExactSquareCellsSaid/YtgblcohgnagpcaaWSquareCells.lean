import Derived.Test.YtgblcohgnagpcaaYc
import Derived.Test.YtgblcohgnagpcaaLt
import Derived.Test.YtgblcohgnagpcaaZb
import Derived.Test.YtgblcohgnagpcaaZa
namespace Go.Proofs.Ytgblcohgnagpcaa
open Go.RowKit
set_option maxRecDepth 4000
theorem sci_pos : ∀ n, n < 5 → 1 ≤ n → 0 < (sci n (sqn n)).length := by decide +kernel
theorem sci_thr : ∀ n, n < 5 → (sci n (sqn n)).length ≤ 1000 ∧ ∀ k, k < (sci n (sqn n)).length → (sci n (sqn n)).getD k [] = [(sci n (sqn n)).flatten.getD (k * 3) 0, (sci n (sqn n)).flatten.getD (k * 3 + 1) 0, (sci n (sqn n)).flatten.getD (k * 3 + 2) 0] := by decide +kernel
set_option maxHeartbeats 400000 in
theorem specSquareCells_yes (n : Nat) (h1 : 1 ≤ n) (h2 : n ≤ 4) (w : World) :
    Calls Try.prog 27 #[.int .i64 n] w (CGives w (sci n (sqn n)) true) := by
  go_enter Try.func27, Try.ntmps27
  go_wp2_with fail
  refine (opReach_yes n (by omega) (by omega) _).mono ?_
  rintro e w' ⟨rfl, rfl⟩
  go_wp2_with fail
  refine (opCells_any n h1 h2 _).mono ?_
  rintro e w2 ⟨v, rfl, hc, hb⟩
  obtain ⟨a, m, c, rfl⟩ := cells_shape hc
  go_wp2_with fail
  go_ret2
  exact ⟨_, rfl, hc, hb⟩
theorem specSquareCells_no (n : Int) (h : ¬ (1 ≤ n ∧ n ≤ 4)) (w : World) :
    Calls Try.prog 27 #[.int .i64 n] w (CGives w [] false) := by
  go_enter Try.func27, Try.ntmps27
  go_wp2_with fail
  refine (opReach_no n h _).mono ?_
  rintro e w' ⟨rfl, rfl⟩
  go_wp2_with fail
  go_ret2
  exact cgives_none (Below.refl _ _)
set_option maxHeartbeats 400000 in
theorem implSquareCells_yes (n : Nat) (h1 : 1 ≤ n) (h2 : n ≤ 4) (w : World) :
    Calls Try.prog 28 #[.int .i64 n] w (CGives w (sci n (sqn n)) true) := by
  have HT := Lib.hid (sci_thr n (by omega))
  have hp := sci_pos n (by omega) h1
  go_enter Try.func28, Try.ntmps28
  go_wp2_with fail
  refine (squareOf_yes n (by omega) (by omega) _).mono ?_
  rintro e w1 ⟨rfl, hb1⟩
  go_wp2_with fail
  refine (sqCells_any n h1 h2 _).mono ?_
  rintro e w2 ⟨v, rfl, hc, hb⟩
  have hB := bnext (balloc hb1 _) hb
  obtain ⟨-, a, cap, b, rfl, -⟩ := trio_shape hc
  go_wp2_with fail
  refine (lists3_v _ _ _ _ hc hp HT.out.2 (by have := HT.out.1; omega)).mono ?_
  rintro e w3 ⟨v, rfl, hc3, hb3⟩
  obtain ⟨a', m', c', rfl⟩ := cells_shape hc3
  go_wp2_with fail
  go_ret2
  exact ⟨_, rfl, cells_base hc3 hB.size, bnext hB hb3⟩
theorem implSquareCells_no (n : Int) (h : ¬ (1 ≤ n ∧ n ≤ 4)) (w : World) :
    Calls Try.prog 28 #[.int .i64 n] w (CGives w [] false) := by
  go_enter Try.func28, Try.ntmps28
  go_wp2_with fail
  refine (squareOf_no n h _).mono ?_
  rintro e w1 ⟨rfl, hb1⟩
  go_wp2_with fail
  go_ret2
  exact cgives_none (balloc hb1 _)
set_option maxHeartbeats 800000 in
/-- The law of SquareCells, over what both sides answer. -/
theorem lawOf_SquareCells (n : Int) (cs : List (List Int)) (ok : Bool) (hlen : cs.length ≤ 100000) (hrow : ∀ i, i < cs.length → (cs.getD i []).length ≤ 1000)
    (hs : ∀ w, Calls Try.prog 27 #[.int .i64 n] w (CGives w cs ok))
    (hi : ∀ w, Calls Try.prog 28 #[.int .i64 n] w (CGives w cs ok)) (w : World) :
    Calls Try.prog 8 #[.int .i64 n] w fun e w' => e = .returned (.bool true) ∧ Below w.heap.size w w' := by
  have HS := Lib.hid hs
  have HI := Lib.hid hi
  have hok : (ok != ok) = false := by simp
  obtain ⟨ls, hls, hsm, hln⟩ : ∃ ls : List Nat, Lens ls cs ∧ (∀ i, ls.getD i 0 ≤ 1000) ∧ ls.length ≤ 100000 := ⟨cs.map List.length, lens_self cs, fun i => by
    rw [← (lens_self cs).2 i]
    by_cases hlt : i < cs.length
    · exact hrow i hlt
    · simp [List.getD, List.getElem?_eq_none (Nat.le_of_not_lt hlt)], by simpa using hlen⟩
  have HLS := Lib.hid hls
  have HSM := Lib.hid hsm
  have hto : offs ls ls.length ≤ 100000000 := Nat.le_trans (offs_le ls hsm ls.length) (by omega)
  clear hs hi hlen hrow hls hsm
  go_enter Try.func8, Try.ntmps8
  go_wp2_with fail
  refine (HS.out _).mono ?_
  rintro e w1 ⟨v0, rfl, hc0, hb0⟩
  obtain ⟨a0, n0, c0, rfl⟩ := cells_shape hc0
  go_wp2_with fail
  refine (HI.out _).mono ?_
  rintro e w2 ⟨v1, rfl, hc1, hb1⟩
  obtain ⟨a1, n1, c1, rfl⟩ := cells_shape hc1
  go_wp2_with fail
  refine (eqIntSS_same cs a1 a0 _ _ _ _ c1 c0 w2 hc1 (cells_now hc0 hb1)).mono ?_
  rintro e w3 ⟨rfl, hs3⟩
  have hb3 := hs3 w2.heap.size
  have hc1' := cells_now hc1 hb3
  have hB13 := bnext hb1 hb3
  clear hc1 hb1 hb3
  go_wp2_with fail
  refine (markIntSS_any ls cs HLS.out HSM.out hln a1 w1.heap.size n1 c1 w3 hc1').mono ?_
  rintro e w4 ⟨rfl, ⟨cs', hmk, hc4⟩, hb4⟩
  have hB14 := hB13.trans hb4
  clear hc1' hB13 hb4
  generalize hto' : offs ls ls.length = tot at hto
  go_wp2_with fail
  refine (heldIntSS_yes ls cs' hmk HSM.out hln a1 _ n1 c1 w4 hc4).mono ?_
  rintro e w4' ⟨rfl, rfl⟩
  rw [hto']
  go_wp2_with fail
  refine (HI.out _).mono ?_
  rintro e w5 ⟨v2, rfl, hc2, hb5⟩
  obtain ⟨a2, n2, c2, rfl⟩ := cells_shape hc2
  have hB15 := bnext hB14 hb5
  clear hB14
  go_wp2_with fail
  refine (eqIntSS_same cs a2 a0 _ _ _ _ c2 c0 w5 hc2 (cells_now hc0 hB15)).mono ?_
  rintro e w6 ⟨rfl, hs6⟩
  have hb6 := hs6 w5.heap.size
  have hc6 := cells_now hc4 (bnext hb5 hb6)
  have hB16 := bnext hB15 hb6
  clear hc4 hb5 hb6 hB15 hc2 hc0
  go_wp2_with fail
  refine (heldIntSS_yes ls cs' hmk HSM.out hln a1 _ n1 c1 w6 hc6).mono ?_
  rintro e w6' ⟨rfl, rfl⟩
  rw [hto']
  go_wp2_with fail
  go_ret
  exact ⟨rfl, bnext hb0 hB16⟩
theorem sci_rows : ∀ n, n < 5 → ∀ i, i < (sci n (sqn n)).length → ((sci n (sqn n)).getD i []).length ≤ 1000 := by
  intro n h i hi
  rw [(sci_thr n h).2 i hi]
  simp
theorem law_SquareCells (n : Int) (_ : (Lit.int .i64 n).wf = true) (w : World) :
    Calls Try.prog 8 #[.int .i64 n] w fun e w' => e = .returned (.bool true) ∧ Below w.heap.size w w' := by
  by_cases h : 1 ≤ n ∧ n ≤ 4
  · obtain ⟨h1, h2⟩ := h
    obtain ⟨n, rfl⟩ := Int.eq_ofNat_of_zero_le (show 0 ≤ n by omega)
    exact lawOf_SquareCells n (sci n (sqn n)) true (by have := (sci_thr n (by omega)).1; omega) (sci_rows n (by omega)) (fun w => specSquareCells_yes n (by omega) (by omega) w) (fun w => implSquareCells_yes n (by omega) (by omega) w) w
  · exact lawOf_SquareCells n [] false (by simp) (by simp) (fun w => specSquareCells_no n h w) (fun w => implSquareCells_no n h w) w
end Go.Proofs.Ytgblcohgnagpcaa
