import Derived.Test.YtgloelhpnhofgaaDa
namespace Go.Proofs.Ytgloelhpnhofgaa
open Go.RowKit
set_option maxRecDepth 4000
def outDoorsOf (n : Int) (xs : List Int) : List (List Int) := if labB n xs then outp xs (allN n.toNat (Pr.cnt n.toNat)) else []
theorem allN_bd (n : Nat) (h2 : n ≤ 8) (i : Nat) (hi : i ≤ Pr.cnt n) : (allN n i).length ≤ 2025 := by
  have hcn := (Pr.cnt_le n (by omega)).1
  have hal := allN_len n i
  have hal2 : i * Pr.cnt n ≤ 45 * 45 := Nat.mul_le_mul (by omega) hcn
  omega
theorem outDO_len (n : Int) (xs : List Int) : (outDoorsOf n xs).length ≤ 100000 := by
  unfold outDoorsOf
  cases hL : labB n xs
  · simp
  · obtain ⟨n, rfl⟩ := labB_nat hL
    obtain ⟨h1, h2, -, -⟩ := labB_yes hL
    have e := outp_len xs (allN n (Pr.cnt n))
    have := allN_bd n h2 (Pr.cnt n) (Nat.le_refl _)
    simp only [if_true, Int.toNat_natCast]
    omega
theorem outDO_row (n : Int) (xs : List Int) : ∀ i, i < (outDoorsOf n xs).length → ((outDoorsOf n xs).getD i []).length ≤ 1000 := by
  intro i hi
  unfold outDoorsOf at hi ⊢
  split
  · rename_i h; rw [if_pos h] at hi; exact outp_row _ _ i hi
  · rename_i h; rw [if_neg h] at hi; simp at hi
set_option maxHeartbeats 1600000 in
theorem specDoorsOf (n : Int) (xs : List Int) (a : Option Addr) (b len cap : Nat) (w : World) (hn : xs.length = len) (h : Rd w a b 0 xs) (hb0 : len = 0 ∨ b < w.heap.size) :
    Calls Try.prog 37 #[.int .i64 n, .slice a len cap] w (CGives w (outDoorsOf n xs) (labB n xs)) := by
  have HM := Lib.hid (meLabels_any n xs a b 0 len cap w hn h)
  cases hL : labB n xs
  · have H1 : Hid (outDoorsOf n xs = []) := Lib.hid (by simp [outDoorsOf, hL])
    rw [hL] at HM
    rw [H1.out]
    clear hL h
    go_enter Try.func37, Try.ntmps37
    go_wp2_with fail
    refine HM.out.mono ?_
    rintro e w1 ⟨rfl, rfl⟩
    go_wp2_with fail
    go_ret2
    exact cgives_none (Below.refl _ _)
  · obtain ⟨n, rfl⟩ := labB_nat hL
    obtain ⟨h1, h2, hl, hA⟩ := labB_yes hL
    have hcn := (Pr.cnt_le n (by omega)).1
    have H1 : Hid (outDoorsOf n xs = outp xs (allN n (Pr.cnt n))) := Lib.hid (by simp [outDoorsOf, hL])
    have HD := Lib.hid (fun i j w' (hb : Below w.heap.size w w') (hi : i < xs.length) (hj : j < xs.length) => doDoor_any xs i j a b len cap w' hn (h.later hn hb0 hb) hA hi hj)
    rw [hL] at HM
    rw [H1.out]
    have hlen : len = Pr.cnt n := by omega
    subst hlen
    clear hL h hA hn hb0
    go_enter Try.func37, Try.ntmps37
    go_wp2_with fail
    refine HM.out.mono ?_
    rintro e w1 ⟨rfl, rfl⟩
    go_wp2_with fail
    go_loopw [6, 15] (fun v6 v15 wr => ∃ i : Nat, i ≤ Pr.cnt n ∧ v15 = .int .i64 i ∧ CellsV wr w.heap.size v6 (outp xs (allN n i)) ∧ Below w.heap.size w wr) (fun _ v15 _ => Pr.cnt n - (intOf v15).toNat)
    case atStart => exact ⟨0, Nat.zero_le _, rfl, cells_nil _ _, Below.refl _ _⟩
    case round =>
      obtain ⟨i, hi, rfl, hcv, hb⟩ := hrel
      by_cases hlt : i < Pr.cnt n
      · have hal := allN_bd n h2 i hi
        go_wp2_with fail
        go_loopw [6, 8] (fun v6 v8 wr => ∃ j : Nat, i + 1 ≤ j ∧ j ≤ Pr.cnt n ∧ v8 = .int .i64 j ∧ CellsV wr w.heap.size v6 (outp xs (allN n i ++ rowN n i j)) ∧ Below w.heap.size w wr) (fun _ v8 _ => Pr.cnt n - (intOf v8).toNat)
        case atStart => exact ⟨i + 1, Nat.le_refl _, by omega, by go_num, by rw [rowN_start, List.append_nil]; exact hcv, hb⟩
        case round =>
          clear hcv hb
          obtain ⟨j, hij, hj, rfl, hcv, hb⟩ := hrel
          by_cases hltj : j < Pr.cnt n
          · have hji : (j : Int) < (Pr.cnt n : Nat) := by omega
            have hrl := rowN_len n i j
            have hol := outp_len xs (allN n i ++ rowN n i j)
            rw [List.length_append] at hol
            go_wp2_with fail
            refine (meNear_any n i j h1 h2 (by omega) (by omega) _).mono ?_
            rintro e w2 ⟨rfl, hb2⟩
            have hc2 := cells_now hcv hb2
            have hB2 := bnext hb hb2
            clear hcv hb hb2
            cases hN : nearB (pt n i) (pt n j)
            · have e := Lib.hid (rowN_no n i j hN)
              clear hN
              go_wp2_with fail
              go_roundw
              case rel => exact ⟨j + 1, by omega, by omega, by go_num, by rw [e.out]; exact hc2, hB2⟩
              case measure => simp [intOf]; omega
            · have e := Lib.hid (rowN_yes n i j (by omega) hN)
              clear hN
              go_wp2_with fail
              refine (HD.out i j _ hB2 (by omega) (by omega)).mono ?_
              rintro e' w3 ⟨rfl, mm, rfl⟩
              have hB3 := below_drewN hB2 mm
              have hc3 : CellsV (w2.drewN mm) w.heap.size u6 (outp xs (allN n i ++ rowN n i j)) := cells_now hc2 (below_drewN (Below.refl _ _) mm)
              have hz3 := hB3.size
              clear hc2 hB2
              generalize w2.drewN mm = w3 at hB3 hc3 hz3 ⊢
              cases hD : doorB xs i j
              · have e2 := Lib.hid (outp_no xs (allN n i ++ rowN n i j) i j hD)
                rw [List.append_assoc, ← e.out] at e2
                clear hD
                go_wp2_with fail
                go_roundw
                case rel => exact ⟨j + 1, by omega, by omega, by go_num, by rw [e2.out]; exact hc3, hB3⟩
                case measure => simp [intOf]; omega
              · have e2 := Lib.hid (outp_yes xs (allN n i ++ rowN n i j) i j hD)
                rw [List.append_assoc, ← e.out] at e2
                clear hD
                have hbw := balloc (Below.refl w3.heap.size w3) (.cells #[.int .i64 i, .int .i64 j] 3)
                have hu : (w3.alloc (.cells #[.int .i64 i, .int .i64 j] 3)).ownsRow w3.heap.size 3 1 (.slice (some ⟨w3.heap.size, 0, none⟩) 2 2) [(i : Int), (j : Int)].length ([(i : Int), (j : Int)].map (Value.int .i64)) :=
                  own_block (Nat.le_refl _) (heap_alloc_new _ _) (by simp) rfl (by simp [maxLen])
                go_wp2_with (at_builtin; refine append_row w.heap.size _ w3 _ _ _ (outp xs (allN n i ++ rowN n i j)) _ rfl _ _ rfl rfl rfl (by simp) hc3 hbw hu rfl hz3 (by omega) ?_; intro v' w5 hc5 hb5)
                go_roundw
                case rel => exact ⟨j + 1, by omega, by omega, by go_num, by rw [e2.out]; exact hc5, (balloc hB3 _).trans hb5⟩
                case measure => simp [intOf]; omega
          · have hj2 : j = Pr.cnt n := by omega
            have e : Hid (allN n (i + 1) = allN n i ++ rowN n i (Pr.cnt n)) := Lib.hid rfl
            rw [hj2, ← e.out] at hcv
            clear hj2
            go_wp2_with fail
            go_roundw
            case rel => exact ⟨i + 1, by omega, by go_num, hcv, hb⟩
            case measure => simp [intOf]; omega
      · have hi2 : i = Pr.cnt n := by omega
        rw [hi2] at hcv
        clear hi2
        obtain ⟨ta, tm, tc, rfl⟩ := cells_shape hcv
        go_wp2_with fail
        go_ret2
        exact ⟨_, rfl, hcv, hb⟩
end Go.Proofs.Ytgloelhpnhofgaa
