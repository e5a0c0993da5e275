import Derived.Test.YtcahecohjmahaaaDoorJa
import Derived.Test.YtcahecohjmahaaaDoorJb
import Derived.Test.YtcahecohjmahaaaDoorLv
namespace Go.Proofs.YtcahecohjmahaaaDoor
open Go.RowKit
set_option maxRecDepth 4000
def nearOkB (n m i : Int) : Bool := sidesB n m && decide (0 ≤ i ∧ i ≤ n * m - 1)
def valNear (n m i : Int) : List Int := if nearOkB n m i then hxa n m i else []
theorem valNear_len (n m i : Int) : (valNear n m i).length ≤ 1000 := by
  unfold valNear
  split
  · have := hxa_len n m i; omega
  · simp
theorem gives_nil4 {w w' : World} {et : TypeId} {L : List Int} {b : Bool} (hL : L = []) (hb : b = false) (hB : Below w.heap.size w w') : Gives w et L b (.returned (.tuple #[.slice none 0 0, .bool false])) w' := by
  subst hL hb
  exact gives_none hB
theorem gives_of4 {w w' : World} {et : TypeId} {L M : List Int} {v : Value} {b : Bool} (hb : b = true) (hL : L = M) (ho : w'.ownsRow w.heap.size et 1 v M.length (M.map (Value.int .i64))) (hB : Below w.heap.size w w') : Gives w et L b (.returned (.tuple #[v, .bool true])) w' := by
  subst hb hL
  exact ⟨_, rfl, ho, hB⟩
set_option maxHeartbeats 1600000 in
theorem specHexNear (n m i : Int) (w : World) :
    Calls Tryd.prog 20 #[.int .i64 n, .int .i64 m, .int .i64 i] w (Gives w 3 (valNear n m i) (nearOkB n m i)) := by
  have HS := Lib.hid (hxSides_any n m w)
  cases hs : sidesB n m
  · have H1 : Hid (nearOkB n m i = false) := Lib.hid (by simp [nearOkB, hs])
    have H2 : Hid (valNear n m i = []) := Lib.hid (by simp [valNear, H1.out])
    rw [hs] at HS
    clear hs
    go_enter Tryd.func20, Tryd.ntmps20
    go_wp2_with fail
    refine HS.out.mono ?_
    rintro e w1 ⟨rfl, rfl⟩
    go_wp2_with fail
    go_ret2
    exact gives_nil4 H2.out H1.out (Below.refl _ _)
  · have HB : Hid (nearOkB n m i = decide (0 ≤ i ∧ i ≤ n * m - 1)) := Lib.hid (by simp [nearOkB, hs])
    rw [hs] at HS
    obtain ⟨n, m, s, rfl, rfl, hnm, h30, h1, h2, hp⟩ := sidesB_yes hs
    have hw : wrap64 ((n : Int) * (m : Int)) = (s : Int) := by rw [hp, IntWalk.wrap64_in _ ⟨by omega, by omega⟩]
    rw [hp] at HB
    have HP := Lib.hid hp
    clear hs hp
    by_cases hi : 0 ≤ i ∧ i ≤ (s : Int) - 1
    · have H1 : Hid (nearOkB n m i = true) := Lib.hid (by rw [HB.out]; simpa using hi)
      have H2 : Hid (valNear n m i = hxa n m i) := Lib.hid (by simp [valNear, H1.out])
      obtain ⟨i, rfl⟩ := Int.eq_ofNat_of_zero_le hi.1
      have HA := Lib.hid (fun w => hxAround_any n m s i h2 hnm (by omega) (by omega) w)
      have hi' := hi
      clear hnm hi
      go_enter Tryd.func20, Tryd.ntmps20
      go_wp2_with fail
      refine HS.out.mono ?_
      rintro e w1 ⟨rfl, rfl⟩
      go_wp2_with fail
      (try rw [HP.out])
      refine (l1In_yes (i : Int) 0 ((s : Int) - 1) hi' _).mono ?_
      rintro e w1 ⟨rfl, rfl⟩
      go_wp2_with fail
      refine (HA.out _).mono ?_
      rintro e w2 ⟨v, rfl, ho, hb⟩
      obtain ⟨-, sa, sc, sb, rfl, -⟩ := own_shape ho
      go_wp2_with fail
      go_ret2
      exact gives_of4 H1.out H2.out ho hb
    · have H1 : Hid (nearOkB n m i = false) := Lib.hid (by rw [HB.out]; simpa using hi)
      have H2 : Hid (valNear n m i = []) := Lib.hid (by simp [valNear, H1.out])
      have HI := Lib.hid hi
      clear hnm hi
      go_enter Tryd.func20, Tryd.ntmps20
      go_wp2_with fail
      refine HS.out.mono ?_
      rintro e w1 ⟨rfl, rfl⟩
      go_wp2_with fail
      (try rw [HP.out])
      refine (l1In_no i 0 ((s : Int) - 1) HI.out _).mono ?_
      rintro e w1 ⟨rfl, rfl⟩
      go_wp2_with fail
      go_ret2
      exact gives_nil4 H2.out H1.out (Below.refl _ _)
set_option maxHeartbeats 1600000 in
theorem implHexNear (n m i : Int) (w : World) (hv : HxV w) :
    Calls Tryd.prog 21 #[.int .i64 n, .int .i64 m, .int .i64 i] w (Gives w 3 (valNear n m i) (nearOkB n m i)) := by
  cases hs : sidesB n m
  · have H1 : Hid (nearOkB n m i = false) := Lib.hid (by simp [nearOkB, hs])
    have H2 : Hid (valNear n m i = []) := Lib.hid (by simp [valNear, H1.out])
    have HG := Lib.hid (gridOf_no n m hs w)
    clear hs hv
    go_enter Tryd.func21, Tryd.ntmps21
    go_wp2_with fail
    refine HG.out.mono ?_
    rintro e w1 ⟨rfl, hb1⟩
    go_wp2_with fail
    go_ret2
    exact gives_nil4 H2.out H1.out (balloc hb1 _)
  · have HB : Hid (nearOkB n m i = decide (0 ≤ i ∧ i ≤ n * m - 1)) := Lib.hid (by simp [nearOkB, hs])
    obtain ⟨n, m, s, rfl, rfl, hnm, h30, h1, h2, hp⟩ := sidesB_yes hs
    have HG := Lib.hid (gridOf_yes n m s h1 h2 hnm h30 w)
    have HZ := Lib.hid (fun w => gridSize_any n m s hnm h30 w)
    rw [hp] at HB
    clear hs hp
    by_cases hi0 : i < 0
    · have H1 : Hid (nearOkB n m i = false) := Lib.hid (by rw [HB.out]; simp; omega)
      have H2 : Hid (valNear n m i = []) := Lib.hid (by simp [valNear, H1.out])
      clear hnm hv
      go_enter Tryd.func21, Tryd.ntmps21
      go_wp2_with fail
      refine HG.out.mono ?_
      rintro e w1 ⟨rfl, hb1⟩
      go_wp2_with fail
      go_ret2
      exact gives_nil4 H2.out H1.out (balloc hb1 _)
    · by_cases hi1 : i < (s : Int)
      · have H1 : Hid (nearOkB n m i = true) := Lib.hid (by rw [HB.out]; simp; omega)
        have H2 : Hid (valNear n m i = hxa n m i) := Lib.hid (by simp [valNear, H1.out])
        obtain ⟨i, rfl⟩ := Int.eq_ofNat_of_zero_le (show 0 ≤ i by omega)
        have HN := Lib.hid (fun w' (hb : Below w.heap.size w w') => hxNear_any n m s i h2 hnm (by omega) (by omega) w' (hxv_later hv hb))
        clear hnm hv
        go_enter Tryd.func21, Tryd.ntmps21
        go_wp2_with fail
        refine HG.out.mono ?_
        rintro e w1 ⟨rfl, hb1⟩
        have hba := balloc hb1 (.cells #[.int .i64 n, .int .i64 m] 72)
        have hg1 := heap_alloc_new w1 (.cells #[.int .i64 n, .int .i64 m] 72)
        have hs1 : w1.heap.size < (w1.alloc (.cells #[.int .i64 n, .int .i64 m] 72)).heap.size := by simp
        go_wp2_with fail
        generalize w1.alloc (.cells #[.int .i64 n, .int .i64 m] 72) = w2 at hba hg1 hs1 ⊢
        have m0 : w2.cell? ⟨w1.heap.size, 0, none⟩ = some (.int .i64 n) := blk_cell hg1 0 _ rfl
        have m1 : w2.cell? ⟨w1.heap.size, 1, none⟩ = some (.int .i64 m) := blk_cell hg1 1 _ rfl
        (try go_wp2_with fail)
        refine (HZ.out _).mono ?_
        rintro e w3 ⟨rfl, hb3⟩
        have n0 := (hb3.cell (p := ⟨w1.heap.size, 0, none⟩) hs1).trans m0
        have n1 := (hb3.cell (p := ⟨w1.heap.size, 1, none⟩) hs1).trans m1
        have hB3 := bnext hba hb3
        clear m0 m1 hg1 hba hb3 hb1
        go_wp2_with fail
        refine (HN.out _ hB3).mono ?_
        rintro e w4 ⟨v, rfl, ho, hb4⟩
        have hz := hB3.size
        obtain ⟨-, sa, sc, sb, rfl, -⟩ := own_shape ho
        go_wp2_with fail
        go_ret2
        exact gives_of4 H1.out H2.out (own_base ho hz) (bnext hB3 hb4)
      · have H1 : Hid (nearOkB n m i = false) := Lib.hid (by rw [HB.out]; simp; omega)
        have H2 : Hid (valNear n m i = []) := Lib.hid (by simp [valNear, H1.out])
        clear hnm hv
        go_enter Tryd.func21, Tryd.ntmps21
        go_wp2_with fail
        refine HG.out.mono ?_
        rintro e w1 ⟨rfl, hb1⟩
        have hba := balloc hb1 (.cells #[.int .i64 n, .int .i64 m] 72)
        have hg1 := heap_alloc_new w1 (.cells #[.int .i64 n, .int .i64 m] 72)
        go_wp2_with fail
        generalize w1.alloc (.cells #[.int .i64 n, .int .i64 m] 72) = w2 at hba hg1 ⊢
        have m0 : w2.cell? ⟨w1.heap.size, 0, none⟩ = some (.int .i64 n) := blk_cell hg1 0 _ rfl
        have m1 : w2.cell? ⟨w1.heap.size, 1, none⟩ = some (.int .i64 m) := blk_cell hg1 1 _ rfl
        (try go_wp2_with fail)
        refine (HZ.out _).mono ?_
        rintro e w3 ⟨rfl, hb3⟩
        have hB3 := bnext hba hb3
        clear m0 m1 hg1 hba hb3 hb1
        go_wp2_with fail
        go_ret2
        exact gives_nil4 H2.out H1.out hB3
/-- The law of HexNear, over what both sides answer. -/
theorem lawOf_HexNear (n m i : Int) (e1 e2 : TypeId) (xs : List Int) (ok : Bool) (hlen : xs.length ≤ 1000)
    (hs : ∀ w, Calls Tryd.prog 20 #[.int .i64 n, .int .i64 m, .int .i64 i] w (Gives w e1 xs ok))
    (w : World) (hi : ∀ w', Below w.heap.size w w' → Calls Tryd.prog 21 #[.int .i64 n, .int .i64 m, .int .i64 i] w' (Gives w' e2 xs ok)) :
    Calls Tryd.prog 4 #[.int .i64 n, .int .i64 m, .int .i64 i] w fun e w' => e = .returned (.bool true) ∧ Below w.heap.size w w' := by
  have HS := Lib.hid hs
  have HI := Lib.hid hi
  clear hs hi
  have hok : (ok != ok) = false := by simp
  go_enter Tryd.func4, Tryd.ntmps4
  go_wp2_with fail
  refine (HS.out _).mono ?_
  rintro e w1 ⟨v0, rfl, ho0, hb0⟩
  obtain ⟨-, a0, c0, b0, rfl, hx0, hr0⟩ := own_shape ho0
  go_wp2_with fail
  refine (HI.out _ hb0).mono ?_
  rintro e w2 ⟨v1, rfl, ho1, hb1⟩
  obtain ⟨-, a1, c1, b1, rfl, hx1, hr1⟩ := own_shape ho1
  have ho0' := own_now ho0 hb1
  have hr0' : Rd w2 a0 b0 0 xs := hr0.below hb1 (by
    rcases hx0 with h | h
    · exact .inl h
    · exact .inr (own_lt ho0 b0 (by rw [h]; rfl)))
  have hlt0 := own_lt ho0
  have hB2 := hb0.trans (hb1.mono hb0.size)
  clear hr0 ho0
  go_wp2_with fail
  refine (eqIntS_same xs a1 a0 b1 0 b0 0 _ _ c1 c0 w2 rfl rfl hr1 hr0').mono ?_
  rintro e w3 ⟨rfl, hs3⟩
  have ho1' := own_same ho1 hs3
  have ho0'' := own_same ho0' hs3
  have hB3 := below_same hB2 hs3
  have hm3 : Below w1.heap.size w1 w3 := below_same hb1 hs3
  clear hr0' hr1 ho1 ho0' hB2
  go_wp2_with fail
  refine (markIntS_any e2 xs a1 w1.heap.size _ c1 1 w3 ho1' (by omega) (by omega)).mono ?_
  rintro e w4 ⟨rfl, ho1m, hb4⟩
  obtain ⟨-, a1', c1', b1', hv, hx1', hr4⟩ := own_shape ho1m
  simp only [Value.slice.injEq] at hv
  obtain ⟨rfl, -, rfl⟩ := hv
  have hl4 : (mkd 1 xs.length xs).length = xs.length := mkd_len _ _ _ (Nat.le_refl _)
  have hB4 := hB3.trans (hb4.mono hb0.size)
  have ho0m := own_later ho0'' hlt0 hb4
  have hw4 : w1.heap.size ≤ w4.heap.size := Nat.le_trans hm3.size hb4.size
  clear ho1' ho0'' hB3
  have HL := Lib.hid hl4
  clear hl4
  go_wp2_with fail
  refine (heldIntS_yes (mkd 1 xs.length xs) a1 b1' 0 _ c1 1 w4 HL.out hr4 (by omega) (by rw [HL.out]; omega) (fun j hj => mkd_all 1 xs j (by rw [HL.out] at hj; exact hj))).mono ?_
  rintro e w4 ⟨rfl, rfl⟩
  go_wp2_with fail
  refine (HI.out _ hB4).mono ?_
  rintro e w5 ⟨v2, rfl, ho2, hb5⟩
  obtain ⟨-, a2, c2, b2, rfl, hx2, hr2⟩ := own_shape ho2
  have ho0n := own_now ho0m hb5
  have hr5 : Rd w5 a1 b1' 0 (mkd 1 xs.length xs) := hr4.below hb5 (by
    rcases hx1' with h | h
    · exact .inl h
    · exact .inr (own_lt ho1m b1' (by rw [h]; rfl)))
  obtain ⟨-, a0', c0', b0', hv, hx0', hr0⟩ := own_shape ho0n
  simp only [Value.slice.injEq] at hv
  obtain ⟨rfl, -, rfl⟩ := hv
  have hB5 := hB4.trans (hb5.mono hB4.size)
  clear ho0n ho0m ho1m hr4 hB4
  go_wp2_with fail
  refine (eqIntS_same xs a2 a0 b2 0 b0' 0 _ _ c2 c0 w5 rfl rfl hr2 hr0).mono ?_
  rintro e w6 ⟨rfl, hs6⟩
  have hr6 := hr5.same hs6
  have hB6 := below_same hB5 hs6
  clear hr0 hr2 hr5 hB5 ho2
  go_wp2_with fail
  refine (heldIntS_yes (mkd 1 xs.length xs) a1 b1' 0 _ c1 1 w6 HL.out hr6 (by omega) (by rw [HL.out]; omega) (fun j hj => mkd_all 1 xs j (by rw [HL.out] at hj; exact hj))).mono ?_
  rintro e w6 ⟨rfl, rfl⟩
  go_wp2_with fail
  go_ret
  exact ⟨rfl, hB6⟩
theorem law_HexNear (n : Int) (_ : (Lit.int .i64 n).wf = true) (m : Int) (_ : (Lit.int .i64 m).wf = true) (i : Int) (_ : (Lit.int .i64 i).wf = true) (w : World) (hv : HxV w) :
    Calls Tryd.prog 4 #[.int .i64 n, .int .i64 m, .int .i64 i] w fun e w' => e = .returned (.bool true) ∧ Below w.heap.size w w' :=
  lawOf_HexNear n m i _ _ (valNear n m i) _ (valNear_len n m i) (fun w => specHexNear n m i w) w (fun w' hb => implHexNear n m i w' (hxv_later hv hb))
end Go.Proofs.YtcahecohjmahaaaDoor
