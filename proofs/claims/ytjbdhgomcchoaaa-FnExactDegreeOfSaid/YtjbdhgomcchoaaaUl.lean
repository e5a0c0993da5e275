import Derived.Test.YtjbdhgomcchoaaaUs
namespace Go.Proofs.Ytjbdhgomcchoaaa
open Go.RowKit
/-- The points of a cell of the list, and that both sides call it an up cell alike. -/
def cp (n k t : Nat) : Nat := ((ci n).flatten.getD (k * 3 + t) 0).toNat
theorem ci_up : ∀ n, n < 9 → (ci n).length = n * n ∧ ∀ k, k < (ci n).length → (ci n).getD k [] = [(cp n k 0 : Int), (cp n k 1 : Int), (cp n k 2 : Int)] ∧
    (ci n).flatten.getD (k * 3) 0 = (cp n k 0 : Int) ∧ (ci n).flatten.getD (k * 3 + 1) 0 = (cp n k 1 : Int) ∧ (ci n).flatten.getD (k * 3 + 2) 0 = (cp n k 2 : Int) ∧ cp n k 0 < 45 ∧ cp n k 1 < 45 ∧ cp n k 2 < 45 ∧
    upI n (cp n k 0) (cp n k 1) (cp n k 2) = upS n [cp n k 0, cp n k 1, cp n k 2] := by decide +kernel
theorem sqW (n : Nat) (h2 : n ≤ 8) : wrap64 ((n : Int) * (n : Int)) = ((n * n : Nat) : Int) := by
  have : n * n ≤ 8 * 8 := Nat.mul_le_mul h2 h2
  rw [IntWalk.wrap64_in _ ⟨by have : (0:Int) ≤ (n:Int) * (n:Int) := Int.mul_nonneg (by omega) (by omega); omega, by have : ((n * n : Nat) : Int) = (n:Int) * (n:Int) := Int.natCast_mul n n; omega⟩]
  exact (Int.natCast_mul n n).symm
set_option maxHeartbeats 800000 in
theorem specIsUpCell_yes (n k : Nat) (h1 : 1 ≤ n) (h2 : n ≤ 8) (hk : k < (ci n).length) (w : World) :
    Calls Try.prog 25 #[.int .i64 n, .int .i64 k] w fun e w' => e = .returned (.tuple #[.bool (upI n (cp n k 0) (cp n k 1) (cp n k 2)), .bool true]) ∧ Below w.heap.size w w' := by
  have he := Lib.hid (ci_eq n (by omega) h1)
  obtain ⟨hlen, hall⟩ := ci_up n (by omega)
  obtain ⟨hrow, -, -, -, hp, hq, hr, hu⟩ := hall k hk
  have hsq := sqW n h2
  have hnn64 : n * n ≤ 64 := Nat.mul_le_mul h2 h2
  rw [← hlen] at hsq hnn64
  have HU := Lib.hid hu
  have HROW := Lib.hid hrow
  clear hall hu hrow hlen
  go_enter Try.func25, Try.ntmps25
  go_wp2_with fail
  refine (meSide_yes n h1 h2 _).mono ?_
  rintro e w1 ⟨rfl, rfl⟩
  go_wp2_with fail
  refine (l1In_yes k 0 _ (by omega) _).mono ?_
  rintro e w1 ⟨rfl, rfl⟩
  go_wp2_with fail
  refine (meCells_any n h1 h2 _).mono ?_
  rintro e w2 ⟨v, rfl, hc, hb⟩
  rw [← he.out] at hc
  obtain ⟨a, m, c, rfl⟩ := cells_shape hc
  obtain ⟨rfl, -, hrows⟩ := cells_row hc
  obtain ⟨g, ra, rc, rb, rfl, -, hgl, c1, hx, hrd, -, -⟩ := hrows k hk
  have hki : (k : Int) < ((ci n).length : Int) := by omega
  have HRD : Hid (Rd w2 ra rb 0 ([cp n k 0, cp n k 1, cp n k 2].map (fun (i : Nat) => (i : Int)))) := Lib.hid (by rw [← show (ci n).getD k [] = [cp n k 0, cp n k 1, cp n k 2].map (fun (i : Nat) => (i : Int)) from HROW.out]; exact hrd)
  have hl3 : ((ci n).getD k []).length = 3 := by rw [HROW.out]; rfl
  rw [hl3] at c1
  clear hrows hrd hl3
  go_wp2_with fail
  refine (meUp_any n [cp n k 0, cp n k 1, cp n k 2] h1 h2 (fun j => ?_) (by simp) ra rb 3 rc _ rfl HRD.out (hx.imp_right fun h => h.2.1)).mono ?_
  · match j with
    | 0 => exact hp
    | 1 => exact hq
    | 2 => exact hr
    | j + 3 => simp [List.getD]
  · rintro e w3 ⟨rfl, hb3⟩
    rw [← HU.out]
    go_wp2_with fail
    go_ret2
    exact ⟨rfl, bnext hb hb3⟩
set_option maxHeartbeats 800000 in
theorem specIsUpCell_no (n k : Int) (h : ¬ (1 ≤ n ∧ n ≤ 8 ∧ 0 ≤ k ∧ k < ((ci n.toNat).length : Nat))) (w : World) :
    Calls Try.prog 25 #[.int .i64 n, .int .i64 k] w fun e w' => e = .returned (.tuple #[.bool false, .bool false]) ∧ Below w.heap.size w w' := by
  by_cases hn : 1 ≤ n ∧ n ≤ 8
  · obtain ⟨h1, h2⟩ := hn
    obtain ⟨n, rfl⟩ := Int.eq_ofNat_of_zero_le (show 0 ≤ n by omega)
    have hk : ¬ (0 ≤ k ∧ k ≤ ((ci n).length : Int) - 1) := fun hh => h ⟨h1, h2, hh.1, by rw [Int.toNat_natCast]; omega⟩
    obtain ⟨hlen, -⟩ := ci_up n (by omega)
    have hsq := sqW n (by omega)
    have hnn64 : n * n ≤ 64 := Nat.mul_le_mul (show n ≤ 8 by omega) (show n ≤ 8 by omega)
    rw [← hlen] at hsq hnn64
    clear h hlen
    go_enter Try.func25, Try.ntmps25
    go_wp2_with fail
    refine (meSide_yes n (by omega) (by omega) _).mono ?_
    rintro e w1 ⟨rfl, rfl⟩
    go_wp2_with fail
    refine (l1In_no k 0 _ hk _).mono ?_
    rintro e w1 ⟨rfl, rfl⟩
    go_wp2_with fail
    go_ret2
    exact ⟨rfl, Below.refl _ _⟩
  · clear h
    go_enter Try.func25, Try.ntmps25
    go_wp2_with fail
    refine (meSide_no n hn _).mono ?_
    rintro e w1 ⟨rfl, rfl⟩
    go_wp2_with fail
    go_ret2
    exact ⟨rfl, Below.refl _ _⟩
set_option maxHeartbeats 800000 in
theorem implIsUpCell_yes (n k : Nat) (h1 : 1 ≤ n) (h2 : n ≤ 8) (hk : k < (ci n).length) (w : World) :
    Calls Try.prog 26 #[.int .i64 n, .int .i64 k] w fun e w' => e = .returned (.tuple #[.bool (upI n (cp n k 0) (cp n k 1) (cp n k 2)), .bool true]) ∧ Below w.heap.size w w' := by
  obtain ⟨hlen, hall⟩ := ci_up n (by omega)
  obtain ⟨-, hx, hy, hz, hp, hq, hr, -⟩ := hall k hk
  have hbd := ci_bd n h2
  have HX := Lib.hid hx
  have HY := Lib.hid hy
  have HZ := Lib.hid hz
  clear hall hx hy hz hlen
  go_enter Try.func26, Try.ntmps26
  go_wp2_with fail
  refine (meshOf_yes n h1 h2 _).mono ?_
  rintro e w1 ⟨rfl, hb1⟩
  go_wp2_with fail
  refine (cells_any n h1 h2 _).mono ?_
  rintro e w2 ⟨v, rfl, hc2, hb2⟩
  obtain ⟨hfl, a, cap, b, rfl, hrd⟩ := trio_shape hc2
  obtain ⟨rfl, c0⟩ := hrd (k * 3) (by omega)
  have c1 := (hrd (k * 3 + 1) (by omega)).2
  have c2 := (hrd (k * 3 + 2) (by omega)).2
  rw [HX.out] at c0
  rw [HY.out] at c1
  rw [HZ.out] at c2
  have hm2 : w2.cell? ⟨w1.heap.size, 0, none⟩ = some (.int .i64 n) := by rw [hb2.cell (by simp)]; go_cell
  have hB2 := bnext (balloc hb1 (.cells #[.int .i64 n] 51)) hb2
  have hbl : b < w2.heap.size := own_lt hc2 b rfl
  have hml : w1.heap.size < w2.heap.size := by have := hb2.size; simp at this; omega
  have hki : (k : Int) < ((ci n).length : Int) := by omega
  clear hb1 hb2 hrd hfl hc2
  go_wp2_with fail
  refine wp_region_below (by kernel_rfl) (by kernel_rfl) ?_
  intro ι hne f hbf hcl
  have m0 : ∀ i, (f i).cell? ⟨w1.heap.size, 0, none⟩ = some (.int .i64 n) := fun i => ((hbf i).cell (p := ⟨w1.heap.size, 0, none⟩) hml).trans hm2
  have d0 : ∀ i, (f i).cell? ⟨b, k * 3, none⟩ = some (.int .i64 (cp n k 0)) := fun i => ((hbf i).cell (p := ⟨b, k * 3, none⟩) hbl).trans c0
  have d1 : ∀ i, (f i).cell? ⟨b, k * 3 + 1, none⟩ = some (.int .i64 (cp n k 1)) := fun i => ((hbf i).cell (p := ⟨b, k * 3 + 1, none⟩) hbl).trans c1
  have d2 : ∀ i, (f i).cell? ⟨b, k * 3 + 2, none⟩ = some (.int .i64 (cp n k 2)) := fun i => ((hbf i).cell (p := ⟨b, k * 3 + 2, none⟩) hbl).trans c2
  repeat (go_big_quiet_step (first | (go_at_call 58; with_reducible refine (isUp_any n (cp n k 0) (cp n k 1) (cp n k 2) h1 h2 hp hq hr _).mono ?_; rintro e w' ⟨rfl, hb⟩; exact ⟨rfl, hcl _ _ hb⟩)))
  refine wpQuiet_nil ?_
  rintro _ ⟨i, rfl⟩
  have hb := bnext hB2 (hbf i)
  generalize f i = w' at hb ⊢
  go_wp2_with fail
  go_ret2
  exact ⟨rfl, hb⟩
set_option maxHeartbeats 800000 in
theorem implIsUpCell_no (n k : Int) (h : ¬ (1 ≤ n ∧ n ≤ 8 ∧ 0 ≤ k ∧ k < ((ci n.toNat).length : Nat))) (w : World) :
    Calls Try.prog 26 #[.int .i64 n, .int .i64 k] w fun e w' => e = .returned (.tuple #[.bool false, .bool false]) ∧ Below w.heap.size w w' := by
  by_cases hn : 1 ≤ n ∧ n ≤ 8
  · obtain ⟨h1, h2⟩ := hn
    obtain ⟨n, rfl⟩ := Int.eq_ofNat_of_zero_le (show 0 ≤ n by omega)
    have hk : ¬ (0 ≤ k ∧ k < ((ci n).length : Int)) := fun hh => h ⟨h1, h2, hh.1, by rw [Int.toNat_natCast]; exact hh.2⟩
    have hbd := ci_bd n (by omega)
    clear h
    by_cases hk0 : k < 0
    · clear hk
      go_enter Try.func26, Try.ntmps26
      go_wp2_with fail
      refine (meshOf_yes n (by omega) (by omega) _).mono ?_
      rintro e w1 ⟨rfl, hb1⟩
      go_wp2_with fail
      refine (cells_any n (by omega) (by omega) _).mono ?_
      rintro e w2 ⟨v, rfl, hc2, hb2⟩
      obtain ⟨hfl, a, cap, b, rfl, hrd⟩ := trio_shape hc2
      have hB2 := bnext (balloc hb1 (.cells #[.int .i64 n] 51)) hb2
      clear hrd hfl hc2 hb1 hb2
      go_wp2_with fail
      go_ret2
      exact ⟨rfl, hB2⟩
    · have hk1 : ((ci n).length : Int) ≤ k := by omega
      clear hk
      go_enter Try.func26, Try.ntmps26
      go_wp2_with fail
      refine (meshOf_yes n (by omega) (by omega) _).mono ?_
      rintro e w1 ⟨rfl, hb1⟩
      go_wp2_with fail
      refine (cells_any n (by omega) (by omega) _).mono ?_
      rintro e w2 ⟨v, rfl, hc2, hb2⟩
      obtain ⟨hfl, a, cap, b, rfl, hrd⟩ := trio_shape hc2
      have hB2 := bnext (balloc hb1 (.cells #[.int .i64 n] 51)) hb2
      clear hrd hfl hc2 hb1 hb2
      go_wp2_with fail
      go_ret2
      exact ⟨rfl, hB2⟩
  · clear h
    go_enter Try.func26, Try.ntmps26
    go_wp2_with fail
    refine (meshOf_no n hn _).mono ?_
    rintro e w1 ⟨rfl, hb1⟩
    go_wp2_with fail
    go_ret2
    exact ⟨rfl, balloc hb1 _⟩
end Go.Proofs.Ytjbdhgomcchoaaa
