import Derived.Test.YtgblcohgnagpcaaYa
namespace Go.Proofs.Ytgblcohgnagpcaa
open Go.RowKit
set_option maxRecDepth 4000
/-- The number of points, as a number. -/
def sqn (n : Nat) : Nat := (2 * n + 1) * (2 * n + 1)
theorem sqn_eq (n : Nat) : sqc (n : Int) = ((sqn n : Nat) : Int) := by simp [sqc, sqn]
theorem sqn_le (n : Nat) (h2 : n ≤ 4) : sqn n ≤ 81 := Nat.mul_le_mul (show 2 * n + 1 ≤ 9 by omega) (show 2 * n + 1 ≤ 9 by omega)
set_option maxHeartbeats 1600000 in
theorem opCells_any (n : Nat) (h1 : 1 ≤ n) (h2 : n ≤ 4) (w : World) :
    Calls Try.prog 57 #[.int .i64 n] w fun e w' => ∃ v, e = .returned v ∧ CellsV w' w.heap.size v (sci n (sqn n)) ∧ Below w.heap.size w w' := by
  have hsl := sqn_le n h2
  have HC : ∀ w : World, Calls Try.prog 67 #[.int .i64 n] w fun e w' => e = .returned (.int .i64 (sqn n : Nat)) ∧ w = w' := fun w => by rw [← sqn_eq]; exact opCount_any n (by omega) (by omega) w
  generalize hS : sqn n = s at hsl HC ⊢
  have HC := Lib.hid HC
  clear hS
  go_enter Try.func57, Try.ntmps57
  go_wp2_with fail
  go_loopw [3, 5] (fun v3 v5 wr => ∃ i : Nat, i ≤ s ∧ v5 = .int .i64 i ∧ CellsV wr w.heap.size v3 (sci n i) ∧ Below w.heap.size w wr) (fun _ v5 _ => s - (intOf v5).toNat)
  case atStart => exact ⟨0, Nat.zero_le _, rfl, cells_nil _ _, Below.refl _ _⟩
  case round =>
    obtain ⟨i, hi, rfl, hc, hb⟩ := hrel
    obtain ⟨wo, rfl⟩ : ∃ wo : World, wo = wr := ⟨_, rfl⟩
    have HS := Lib.hid (sci_succ n i)
    by_cases hlt : i < s
    · have hlti : (i : Int) < (s : Int) := by omega
      have hbd : (sci n i).length < 1000000000 := by have := sci_len n i; omega
      have HBD := Lib.hid hbd
      clear hbd
      go_wp2_with fail
      refine (HC.out _).mono ?_
      rintro e w' ⟨rfl, rfl⟩
      go_wp2_with fail
      refine (opAt_any n i (by omega) (by omega) (by omega) (by omega) _).mono ?_
      rintro e w2 ⟨rfl, hb2⟩
      have hc2 := cells_now hc hb2
      have hB2 := bnext hb hb2
      have hz2 := hB2.size
      clear hc hb hb2
      by_cases hx : ax n i < n
      · by_cases hy : ay n i < n
        · have e1 := Lib.hid (show sci n (i + 1) = sci n i ++ [[(i : Int), (i : Int) + 1, (i : Int) + (2 * n + 1) + 1], [(i : Int), (i : Int) + (2 * n + 1), (i : Int) + (2 * n + 1) + 1]] by rw [HS.out]; unfold sc1; rw [if_pos ⟨hx, hy⟩])
          generalize ax n i = x at *
          generalize ay n i = y at *
          have hbA := balloc (balloc (Below.refl w2.heap.size w2) (.cells #[.int .i64 i, .int .i64 ((i : Int) + 1), .int .i64 ((i : Int) + (2 * n + 1) + 1)] 3)) (.cells #[.int .i64 i, .int .i64 ((i : Int) + (2 * n + 1)), .int .i64 ((i : Int) + (2 * n + 1) + 1)] 3)
          have hu : ((w2.alloc (.cells #[.int .i64 i, .int .i64 ((i : Int) + 1), .int .i64 ((i : Int) + (2 * n + 1) + 1)] 3)).alloc (.cells #[.int .i64 i, .int .i64 ((i : Int) + (2 * n + 1)), .int .i64 ((i : Int) + (2 * n + 1) + 1)] 3)).ownsRow w2.heap.size 3 1 (.slice (some ⟨w2.heap.size, 0, none⟩) 3 3) [(i : Int), (i : Int) + 1, (i : Int) + (2 * n + 1) + 1].length ([(i : Int), (i : Int) + 1, (i : Int) + (2 * n + 1) + 1].map (Value.int .i64)) :=
            own_block (Nat.le_refl _) ((Below.heap_alloc _ _ _ (by simp)).trans (heap_alloc_new _ _)) (by simp) rfl (by simp [maxLen])
          have hu' : ((w2.alloc (.cells #[.int .i64 i, .int .i64 ((i : Int) + 1), .int .i64 ((i : Int) + (2 * n + 1) + 1)] 3)).alloc (.cells #[.int .i64 i, .int .i64 ((i : Int) + (2 * n + 1)), .int .i64 ((i : Int) + (2 * n + 1) + 1)] 3)).ownsRow w2.heap.size 3 1 (.slice (some ⟨w2.heap.size + 1, 0, none⟩) 3 3) [(i : Int), (i : Int) + (2 * n + 1), (i : Int) + (2 * n + 1) + 1].length ([(i : Int), (i : Int) + (2 * n + 1), (i : Int) + (2 * n + 1) + 1].map (Value.int .i64)) := by
            have e := heap_alloc_new (w2.alloc (.cells #[.int .i64 i, .int .i64 ((i : Int) + 1), .int .i64 ((i : Int) + (2 * n + 1) + 1)] 3)) (.cells #[.int .i64 i, .int .i64 ((i : Int) + (2 * n + 1)), .int .i64 ((i : Int) + (2 * n + 1) + 1)] 3)
            rw [World.size_alloc] at e
            exact own_block (by omega) e (by simp) rfl (by simp [maxLen])
          go_wp2_with (at_builtin; refine append_row2 w.heap.size _ w2 _ _ _ _ (sci n i) _ _ rfl _ _ rfl rfl rfl (by simp) hc2 hbA hu hu' (fun b h1 h2 => by simp [Value.ownBlock] at h1 h2; omega) rfl rfl hz2 HBD.out ?_; intro v' w5 hc5 hb5)
          go_roundw
          case rel => exact ⟨i + 1, by omega, by go_num, by rw [e1.out]; exact hc5, (balloc (balloc hB2 _) _).trans hb5⟩
          case measure => simp [intOf]; omega
        · have e1 := Lib.hid (show sci n (i + 1) = sci n i by rw [HS.out]; unfold sc1; rw [if_neg (fun h => hy h.2), List.append_nil])
          generalize ax n i = x at *
          generalize ay n i = y at *
          go_wp2_with fail
          go_roundw
          case rel => exact ⟨i + 1, by omega, by go_num, by rw [e1.out]; exact hc2, hB2⟩
          case measure => simp [intOf]; omega
      · have e1 := Lib.hid (show sci n (i + 1) = sci n i by rw [HS.out]; unfold sc1; rw [if_neg (fun h => hx h.1), List.append_nil])
        generalize ax n i = x at *
        generalize ay n i = y at *
        go_wp2_with fail
        go_roundw
        case rel => exact ⟨i + 1, by omega, by go_num, by rw [e1.out]; exact hc2, hB2⟩
        case measure => simp [intOf]; omega
    · have hk2 : i = s := by omega
      rw [hk2] at hc
      clear hk2
      obtain ⟨va, vn, vc, rfl⟩ := cells_shape hc
      go_wp2_with fail
      refine (HC.out _).mono ?_
      rintro e w' ⟨rfl, rfl⟩
      go_wp2_with fail
      go_ret
      exact ⟨_, rfl, hc, hb⟩
end Go.Proofs.Ytgblcohgnagpcaa
