import Derived.Test.YtgloelhpnhofgaaZj
namespace Go.Proofs.Ytgloelhpnhofgaa
open Go.RowKit
set_option maxRecDepth 4000
/-- The neighbours of i behind it, below j, as pairs. -/
def rowN (n i j : Nat) : List (Int × Int) := ((List.range j).filter (fun (q : Nat) => decide (i < q) && nearB (pt n i) (pt n q))).map (fun (q : Nat) => ((i : Int), (q : Int)))
def allN (n : Nat) : Nat → List (Int × Int)
  | 0 => []
  | i + 1 => allN n i ++ rowN n i (Pr.cnt n)
theorem rowN_start (n i : Nat) : rowN n i (i + 1) = [] := by
  simp only [rowN, List.map_eq_nil_iff, List.filter_eq_nil_iff, List.mem_range]
  intro q hq
  simp; omega
theorem rowN_yes (n i j : Nat) (h : i < j) (hN : nearB (pt n i) (pt n j) = true) : rowN n i (j + 1) = rowN n i j ++ [((i : Int), (j : Int))] := by
  simp [rowN, List.range_succ, List.filter_append, h, hN]
theorem rowN_no (n i j : Nat) (hN : nearB (pt n i) (pt n j) = false) : rowN n i (j + 1) = rowN n i j := by
  simp [rowN, List.range_succ, List.filter_append, hN]
theorem rowN_len (n i j : Nat) : (rowN n i j).length ≤ j := by
  simp only [rowN, List.length_map]; exact Nat.le_trans (List.length_filter_le _ _) (by simp)
theorem allN_len (n : Nat) : ∀ i, (allN n i).length ≤ i * Pr.cnt n
  | 0 => by simp [allN]
  | i + 1 => by
    have := allN_len n i
    have := rowN_len n i (Pr.cnt n)
    simp only [allN, List.length_append, Nat.add_mul]; omega
theorem allN_mem (n : Nat) : ∀ i, i ≤ Pr.cnt n → ∀ p ∈ allN n i, ∃ x y : Nat, p = ((x : Int), (y : Int)) ∧ x < Pr.cnt n ∧ y < Pr.cnt n
  | 0, _ => by simp [allN]
  | i + 1, hi => by
    intro p hp
    simp only [allN, List.mem_append] at hp
    rcases hp with hp | hp
    · exact allN_mem n i (by omega) p hp
    · simp only [rowN, List.mem_map, List.mem_filter, List.mem_range] at hp
      obtain ⟨q, ⟨hq, -⟩, rfl⟩ := hp
      exact ⟨i, q, rfl, by omega, hq⟩
theorem pts_all (n : Nat) (m : Nat) (hm : Pr.cnt n ≤ m) : Pts m (allN n (Pr.cnt n)) := by
  intro k hk
  have := allN_mem n _ (Nat.le_refl _) ((allN n (Pr.cnt n)).getD k (0, 0)) (by
    rw [List.getD_eq_getElem?_getD, List.getElem?_eq_getElem hk]
    exact List.getElem_mem hk)
  obtain ⟨x, y, e, hx, hy⟩ := this
  exact ⟨x, y, e, by omega, by omega⟩
set_option maxHeartbeats 1600000 in
theorem meshPairs_any (n : Nat) (h1 : 1 ≤ n) (h2 : n ≤ 8) (w : World) :
    Calls Try.prog 80 #[.agg #[.int .i64 n]] w fun e w' => ∃ v, e = .returned v ∧ PairV w' w.heap.size v (allN n (Pr.cnt n)) ∧ Below w.heap.size w w' := by
  have hcn := (Pr.cnt_le n (by omega)).1
  have hb0 := balloc (Below.refl w.heap.size w) (.cells #[.int .i64 n] 55)
  have hm0 : (w.alloc (.cells #[.int .i64 n] 55)).cell? ⟨w.heap.size, 0, none⟩ = some (.int .i64 n) := by go_cell
  have hz0 : w.heap.size < (w.alloc (.cells #[.int .i64 n] 55)).heap.size := by simp
  go_enter Try.func80, Try.ntmps80
  go_wp2_with fail
  refine (size_any n h2 _).mono ?_
  rintro e w1 ⟨rfl, hb1⟩
  have hm1 := (hb1.cell (p := ⟨w.heap.size, 0, none⟩) hz0).trans hm0
  have hB1 := bnext hb0 hb1
  have hz1 : w.heap.size < w1.heap.size := Nat.lt_of_lt_of_le hz0 hb1.size
  have HM := Lib.hid hm1
  clear hb1 hb0 hm0 hz0
  go_wp2_with fail
  clear hm1
  go_loopw [3, 8] (fun v3 v8 wr => ∃ i : Nat, i ≤ Pr.cnt n ∧ v8 = .int .i64 i ∧ PairV wr w1.heap.size v3 (allN n i) ∧ Below w1.heap.size w1 wr) (fun _ v8 _ => Pr.cnt n - (intOf v8).toNat)
  case atStart => exact ⟨0, Nat.zero_le _, rfl, World.ownsRow_nil _ _ _ _, Below.refl _ _⟩
  case round =>
    obtain ⟨i, hi, rfl, hp, hb⟩ := hrel
    by_cases hlt : i < Pr.cnt n
    · have hal := allN_len n i
      have hal2 : i * Pr.cnt n ≤ 45 * 45 := Nat.mul_le_mul (by omega) hcn
      go_wp2_with fail
      go_loopw [3, 5] (fun v3 v5 wr => ∃ j : Nat, i + 1 ≤ j ∧ j ≤ Pr.cnt n ∧ v5 = .int .i64 j ∧ PairV wr w1.heap.size v3 (allN n i ++ rowN n i j) ∧ Below w1.heap.size w1 wr) (fun _ v5 _ => Pr.cnt n - (intOf v5).toNat)
      case atStart => exact ⟨i + 1, Nat.le_refl _, by omega, by go_num, by rw [rowN_start, List.append_nil]; exact hp, hb⟩
      case round =>
        clear hp hb
        obtain ⟨j, hij, hj, rfl, hp, hb⟩ := hrel
        have hmr := (hb.cell (p := ⟨w.heap.size, 0, none⟩) hz1).trans HM.out
        go_wp2_with fail
        refine (size_any n h2 _).mono ?_
        rintro e w2 ⟨rfl, hb2⟩
        have hzr : w.heap.size < wr.heap.size := Nat.lt_of_lt_of_le hz1 hb.size
        have hm2 := (hb2.cell (p := ⟨w.heap.size, 0, none⟩) hzr).trans hmr
        have hp2 := pairs_now hp hb2
        have hB2 := bnext hb hb2
        clear hp hb hb2 hmr
        by_cases hltj : j < Pr.cnt n
        · have hji : (j : Int) < (Pr.cnt n : Nat) := by omega
          have hrl := rowN_len n i j
          go_wp2_with fail
          refine (areNeighbours_yes n i j h1 h2 hlt hltj _).mono ?_
          rintro e w3 ⟨rfl, hb3⟩
          have hp3 := pairs_now hp2 hb3
          have hB3 := bnext hB2 hb3
          have hz3 := hB3.size
          clear hp2 hB2 hb3 hm2
          cases hN : nearB (pt n i) (pt n j)
          · have e := Lib.hid (rowN_no n i j hN)
            clear hN
            go_wp2_with fail
            go_roundw
            case rel => exact ⟨j + 1, by omega, by omega, by go_num, by rw [e.out]; exact hp3, hB3⟩
            case measure => simp [intOf]; omega
          · have e := Lib.hid (rowN_yes n i j (by omega) hN)
            clear hN
            go_wp2_with (at_builtin; refine append_pair w1.heap.size _ w3 _ (allN n i ++ rowN n i j) i j rfl _ _ rfl rfl rfl (by simp) hp3 hz3 (by rw [List.length_append]; omega) ?_; intro v' w4 hp4 hb4)
            go_roundw
            case rel => exact ⟨j + 1, by omega, by omega, by go_num, by rw [e.out, ← List.append_assoc]; exact hp4, hB3.trans hb4⟩
            case measure => simp [intOf]; omega
        · have hj2 : j = Pr.cnt n := by omega
          have e : Hid (allN n (i + 1) = allN n i ++ rowN n i (Pr.cnt n)) := Lib.hid rfl
          rw [hj2, ← e.out] at hp2
          clear hj2
          go_wp2_with fail
          go_roundw
          case rel => exact ⟨i + 1, by omega, by go_num, hp2, hB2⟩
          case measure => simp [intOf]; omega
    · have hi2 : i = Pr.cnt n := by omega
      rw [hi2] at hp
      clear hi2
      obtain ⟨sa, sc, sb, rfl, -⟩ := pair_shape hp
      go_wp2_with fail
      go_ret
      exact ⟨_, rfl, World.ownsRow.mono hp (Nat.le_of_lt hz1), bnext hB1 hb⟩
end Go.Proofs.Ytgloelhpnhofgaa
