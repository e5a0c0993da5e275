import Derived.Test.YtjbdhgomcchoaaaCs
namespace Go.Proofs.Ytjbdhgomcchoaaa
open Go.RowKit
set_option maxHeartbeats 1600000 in
theorem implCellsWith_yes (n i j : Nat) (h1 : 1 ≤ n) (h2 : n ≤ 8) (hi : i < Pr.cnt n) (hj : j < Pr.cnt n) (hN : nearB (pt n i) (pt n j) = true) (w : World) :
    Calls Try.prog 21 #[.int .i64 n, .int .i64 i, .int .i64 j] w (Gives w 3 (flt (withB (ci n) i j) (ci n).length) true) := by
  have HNN := Lib.hid hN
  clear hN
  go_enter Try.func21, Try.ntmps21
  go_wp2_with fail
  refine (meshOf_yes n h1 h2 _).mono ?_
  rintro e w1 ⟨rfl, hb1⟩
  go_wp2_with fail
  refine (areNeighbours_yes n i j h1 h2 hi hj _).mono ?_
  rintro e w2 ⟨rfl, hb2⟩
  rw [HNN.out]
  have hm2 : w2.cell? ⟨w1.heap.size, 0, none⟩ = some (.int .i64 n) := by rw [hb2.cell (by simp)]; go_cell
  have hB2 := bnext (balloc hb1 (.cells #[.int .i64 n] 51)) hb2
  clear hb1 hb2
  go_wp2_with fail
  refine (cells_any n h1 h2 _).mono ?_
  rintro e w3 ⟨v, rfl, hc3, hb3⟩
  obtain ⟨hfl, a, cap, b, rfl, hrd⟩ := trio_shape hc3
  have hB3 := bnext hB2 hb3
  clear hB2 hb3 hm2
  go_wp2_with fail
  have HA := Lib.hid (ci_at n (by omega))
  have hbd := ci_bd n h2
  have HF := Lib.hid hfl
  have hz3 := hB3.size
  clear hfl
  go_loopw [10, 30] (fun v10 v30 wr => ∃ k : Nat, k ≤ (ci n).length ∧ v30 = .int .i64 k ∧ wr.ownsRow w3.heap.size 3 1 v10 (flt (withB (ci n) i j) k).length ((flt (withB (ci n) i j) k).map (Value.int .i64)) ∧ Below w3.heap.size w3 wr) (fun _ v30 _ => (ci n).length - (intOf v30).toNat)
  case atStart => exact ⟨0, Nat.zero_le _, rfl, World.ownsRow_nil _ _ _ _, Below.refl _ _⟩
  case round =>
    obtain ⟨k, hk, rfl, ho, hb⟩ := hrel
    obtain ⟨wi, rfl⟩ : ∃ wi : World, wi = wr := ⟨_, rfl⟩
    have hfl := flt_len (withB (ci n) i j) k
    by_cases hlt : k < (ci n).length
    · obtain ⟨rfl, c0⟩ := hrd (k * 3) (by have := HF.out; omega)
      have c1 := (hrd (k * 3 + 1) (by have := HF.out; omega)).2
      have c2 := (hrd (k * 3 + 2) (by have := HF.out; omega)).2
      have hbl : b < w3.heap.size := own_lt hc3 b rfl
      have d0 := (hb.cell (p := ⟨b, k * 3, none⟩) hbl).trans c0
      have d1 := (hb.cell (p := ⟨b, k * 3 + 1, none⟩) hbl).trans c1
      have d2 := (hb.cell (p := ⟨b, k * 3 + 2, none⟩) hbl).trans c2
      clear c0 c1 c2
      have hE := HA.out k hlt
      have HW : Hid (withB (ci n) i j k = (hasB ((ci n).getD k []) i && hasB ((ci n).getD k []) j)) := rfl
      rw [hE] at HW
      clear hE
      have HY := Lib.hid (flt_yes (withB (ci n) i j) k)
      have HN := Lib.hid (flt_no (withB (ci n) i j) k)
      have hwb := hb.size
      generalize (ci n).flatten.getD (k * 3) 0 = x at d0 HW
      generalize (ci n).flatten.getD (k * 3 + 1) 0 = y at d1 HW
      generalize (ci n).flatten.getD (k * 3 + 2) 0 = z at d2 HW
      go_wp2_with fail
      refine (trioHas_any x y z i _).mono ?_
      rintro e w4 ⟨rfl, hb4⟩
      have t0 : w4.cell? ⟨wi.heap.size, 0, none⟩ = some (.int .i64 x) := by rw [hb4.cell (by simp)]; go_cell
      have t1 : w4.cell? ⟨wi.heap.size, 1, none⟩ = some (.int .i64 y) := by rw [hb4.cell (by simp)]; go_cell
      have t2 : w4.cell? ⟨wi.heap.size, 2, none⟩ = some (.int .i64 z) := by rw [hb4.cell (by simp)]; go_cell
      have hBi := bnext (balloc (Below.refl wi.heap.size wi) (.cells #[.int .i64 x, .int .i64 y, .int .i64 z] 57)) hb4
      have ho4 := own_now ho hBi
      have hB4 := hb.trans (hBi.mono hwb)
      have hz4 := hB4.size
      clear ho hb hb4 d0 d1 d2 hBi
      cases h1 : hasB [x, y, z] i
      · have e := Lib.hid (HN.out (by rw [HW.out, h1]; rfl))
        clear h1
        go_wp2_with fail
        go_roundw
        case rel => exact ⟨k + 1, by omega, by go_num, by rw [e.out]; exact ho4, hB4⟩
        case measure => simp [intOf]; omega
      · have H1 := Lib.hid h1
        clear h1
        go_wp2_with fail
        refine (trioHas_any x y z j _).mono ?_
        rintro e w5 ⟨rfl, hb5⟩
        have ho5 := own_now ho4 hb5
        have hB5 := bnext hB4 hb5
        have hz5 := hB5.size
        clear ho4 hB4 hb5 t0 t1 t2
        cases h2 : hasB [x, y, z] j
        · have e := Lib.hid (HN.out (by rw [HW.out, H1.out, h2]; rfl))
          clear h2
          go_wp2_with fail
          go_roundw
          case rel => exact ⟨k + 1, by omega, by go_num, by rw [e.out]; exact ho5, hB5⟩
          case measure => simp [intOf]; omega
        · have e := Lib.hid (HY.out (by rw [HW.out, H1.out, h2]; rfl))
          clear h2
          go_wp2_with (at_builtin; refine append_int w3.heap.size _ _ (flt (withB (ci n) i j) k) _ rfl _ _ rfl rfl rfl ho5 hz5 (by omega) ?_; intro v' w6 ho6 hb6)
          go_roundw
          case rel => exact ⟨k + 1, by omega, by go_num, by rw [e.out]; exact ho6, hB5.trans hb6⟩
          case measure => simp [intOf]; omega
    · have hk2 : k = (ci n).length := by omega
      rw [hk2] at ho
      clear hk2
      obtain ⟨-, sa, sc, sb, rfl, -, -⟩ := own_shape ho
      go_wp2_with fail
      go_ret2
      exact ⟨_, rfl, own_base ho hz3, bnext hB3 hb⟩
set_option maxHeartbeats 800000 in
theorem implCellsWith_no (n i j : Int) (h : ∀ n' i' j' : Nat, n = n' → i = i' → j = j' → 1 ≤ n' → n' ≤ 8 → i' < Pr.cnt n' → j' < Pr.cnt n' → nearB (pt n' i') (pt n' j') = false) (w : World) :
    Calls Try.prog 21 #[.int .i64 n, .int .i64 i, .int .i64 j] w (Gives w 3 [] false) := by
  by_cases hn : 1 ≤ n ∧ n ≤ 8
  · obtain ⟨h1, h2⟩ := hn
    obtain ⟨n, rfl⟩ := Int.eq_ofNat_of_zero_le (show 0 ≤ n by omega)
    have h1 : 1 ≤ n := by omega
    have h2 : n ≤ 8 := by omega
    have hA : ∀ w', Calls Try.prog 54 #[.agg #[.int .i64 n], .int .i64 i, .int .i64 j] w' fun e w'' => e = .returned (.bool false) ∧ Below w'.heap.size w' w'' := fun w' => by
      by_cases hp : (0 ≤ i ∧ i < (Pr.cnt n : Nat)) ∧ (0 ≤ j ∧ j < (Pr.cnt n : Nat))
      · obtain ⟨⟨h3, h4⟩, h5, h6⟩ := hp
        obtain ⟨i, rfl⟩ := Int.eq_ofNat_of_zero_le h3
        obtain ⟨j, rfl⟩ := Int.eq_ofNat_of_zero_le h5
        have := areNeighbours_yes n i j h1 h2 (by omega) (by omega) w'
        rwa [h n i j rfl rfl rfl h1 h2 (by omega) (by omega)] at this
      · exact areNeighbours_no n i j h1 h2 hp w'
    clear h
    go_enter Try.func21, Try.ntmps21
    go_wp2_with fail
    refine (meshOf_yes n h1 h2 _).mono ?_
    rintro e w1 ⟨rfl, hb1⟩
    go_wp2_with fail
    refine (hA _).mono ?_
    rintro e w2 ⟨rfl, hb2⟩
    go_wp2_with fail
    go_ret2
    exact gives_none (bnext (balloc hb1 _) hb2)
  · clear h
    go_enter Try.func21, Try.ntmps21
    go_wp2_with fail
    refine (meshOf_no n hn _).mono ?_
    rintro e w1 ⟨rfl, hb1⟩
    go_wp2_with fail
    go_ret2
    exact gives_none (balloc hb1 _)
end Go.Proofs.Ytjbdhgomcchoaaa
