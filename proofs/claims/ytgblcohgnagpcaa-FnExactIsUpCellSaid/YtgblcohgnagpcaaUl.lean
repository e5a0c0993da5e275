import Derived.Test.YtgblcohgnagpcaaUs
import Derived.Test.YtgblcohgnagpcaaS12
namespace Go.Proofs.Ytgblcohgnagpcaa
open Go.RowKit
set_option maxRecDepth 4000
/-- The points of a cell of the list, and that both sides call it an up cell alike. -/
def cp (n k t : Nat) : Nat := ((ci n).flatten.getD (k * 3 + t) 0).toNat
theorem ci_up : ∀ n, n < 9 → (ci n).length = n * n ∧ ∀ k, k < (ci n).length → (ci n).getD k [] = [(cp n k 0 : Int), (cp n k 1 : Int), (cp n k 2 : Int)] ∧
    (ci n).flatten.getD (k * 3) 0 = (cp n k 0 : Int) ∧ (ci n).flatten.getD (k * 3 + 1) 0 = (cp n k 1 : Int) ∧ (ci n).flatten.getD (k * 3 + 2) 0 = (cp n k 2 : Int) ∧ cp n k 0 < 45 ∧ cp n k 1 < 45 ∧ cp n k 2 < 45 ∧
    upI n (cp n k 0) (cp n k 1) (cp n k 2) = upS n [cp n k 0, cp n k 1, cp n k 2] := by decide +kernel
theorem sqW (n : Nat) (h2 : n ≤ 8) : wrap64 ((n : Int) * (n : Int)) = ((n * n : Nat) : Int) := by
  have : n * n ≤ 8 * 8 := Nat.mul_le_mul h2 h2
  rw [IntWalk.wrap64_in _ ⟨by have : (0:Int) ≤ (n:Int) * (n:Int) := Int.mul_nonneg (by omega) (by omega); omega, by have : ((n * n : Nat) : Int) = (n:Int) * (n:Int) := Int.natCast_mul n n; omega⟩]
  exact (Int.natCast_mul n n).symm
set_option maxHeartbeats 800000 in
theorem specIsUpCell_yes (n k : Nat) (h1 : 1 ≤ n) (h2 : n ≤ 8) (hk : k < (ci n).length) (w : World) :
    Calls Try.prog 23 #[.int .i64 n, .int .i64 k] w fun e w' => e = .returned (.tuple #[.bool (upI n (cp n k 0) (cp n k 1) (cp n k 2)), .bool true]) ∧ Below w.heap.size w w' := by
  have he := Lib.hid (ci_eq n (by omega) h1)
  obtain ⟨hlen, hall⟩ := ci_up n (by omega)
  obtain ⟨hrow, -, -, -, hp, hq, hr, hu⟩ := hall k hk
  have hsq := sqW n h2
  have hnn64 : n * n ≤ 64 := Nat.mul_le_mul h2 h2
  rw [← hlen] at hsq hnn64
  have HU := Lib.hid hu
  have HROW := Lib.hid hrow
  clear hall hu hrow hlen
  go_enter Try.func23, Try.ntmps23
  go_wp2_with fail
  refine (meSide_yes n h1 h2 _).mono ?_
  rintro e w1 ⟨rfl, rfl⟩
  go_wp2_with fail
  refine (l1In_yes k 0 _ (by omega) _).mono ?_
  rintro e w1 ⟨rfl, rfl⟩
  go_wp2_with fail
  refine (meCells_any n h1 h2 _).mono ?_
  rintro e w2 ⟨v, rfl, hc, hb⟩
  rw [← he.out] at hc
  obtain ⟨a, m, c, rfl⟩ := cells_shape hc
  obtain ⟨rfl, -, hrows⟩ := cells_row hc
  obtain ⟨g, ra, rc, rb, rfl, -, hgl, c1, hx, hrd, -, -⟩ := hrows k hk
  have hki : (k : Int) < ((ci n).length : Int) := by omega
  have HRD : Hid (Rd w2 ra rb 0 ([cp n k 0, cp n k 1, cp n k 2].map (fun (i : Nat) => (i : Int)))) := Lib.hid (by rw [← show (ci n).getD k [] = [cp n k 0, cp n k 1, cp n k 2].map (fun (i : Nat) => (i : Int)) from HROW.out]; exact hrd)
  have hl3 : ((ci n).getD k []).length = 3 := by rw [HROW.out]; rfl
  rw [hl3] at c1
  clear hrows hrd hl3
  go_wp2_with fail
  refine (meUp_any n [cp n k 0, cp n k 1, cp n k 2] h1 h2 (fun j => ?_) (by simp) ra rb 3 rc _ rfl HRD.out (hx.imp_right fun h => h.2.1)).mono ?_
  · match j with
    | 0 => exact hp
    | 1 => exact hq
    | 2 => exact hr
    | j + 3 => simp [List.getD]
  · rintro e w3 ⟨rfl, hb3⟩
    rw [← HU.out]
    go_wp2_with fail
    go_ret2
    exact ⟨rfl, bnext hb hb3⟩
set_option maxHeartbeats 800000 in
theorem specIsUpCell_no (n k : Int) (h : ¬ (1 ≤ n ∧ n ≤ 8 ∧ 0 ≤ k ∧ k < ((ci n.toNat).length : Nat))) (w : World) :
    Calls Try.prog 23 #[.int .i64 n, .int .i64 k] w fun e w' => e = .returned (.tuple #[.bool false, .bool false]) ∧ Below w.heap.size w w' := by
  by_cases hn : 1 ≤ n ∧ n ≤ 8
  · obtain ⟨h1, h2⟩ := hn
    obtain ⟨n, rfl⟩ := Int.eq_ofNat_of_zero_le (show 0 ≤ n by omega)
    have hk : ¬ (0 ≤ k ∧ k ≤ ((ci n).length : Int) - 1) := fun hh => h ⟨h1, h2, hh.1, by rw [Int.toNat_natCast]; omega⟩
    obtain ⟨hlen, -⟩ := ci_up n (by omega)
    have hsq := sqW n (by omega)
    have hnn64 : n * n ≤ 64 := Nat.mul_le_mul (show n ≤ 8 by omega) (show n ≤ 8 by omega)
    rw [← hlen] at hsq hnn64
    clear h hlen
    go_enter Try.func23, Try.ntmps23
    go_wp2_with fail
    refine (meSide_yes n (by omega) (by omega) _).mono ?_
    rintro e w1 ⟨rfl, rfl⟩
    go_wp2_with fail
    refine (l1In_no k 0 _ hk _).mono ?_
    rintro e w1 ⟨rfl, rfl⟩
    go_wp2_with fail
    go_ret2
    exact ⟨rfl, Below.refl _ _⟩
  · clear h
    go_enter Try.func23, Try.ntmps23
    go_wp2_with fail
    refine (meSide_no n hn _).mono ?_
    rintro e w1 ⟨rfl, rfl⟩
    go_wp2_with fail
    go_ret2
    exact ⟨rfl, Below.refl _ _⟩
set_option maxHeartbeats 800000 in
theorem implIsUpCell_yes (n k : Nat) (h1 : 1 ≤ n) (h2 : n ≤ 8) (hk : k < (ci n).length) (w : World) :
    Calls Try.prog 24 #[.int .i64 n, .int .i64 k] w fun e w' => e = .returned (.tuple #[.bool (upI n (cp n k 0) (cp n k 1) (cp n k 2)), .bool true]) ∧ Below w.heap.size w w' := by
  obtain ⟨hlen, hall⟩ := ci_up n (by omega)
  obtain ⟨-, -, -, -, hp, hq, hr, -⟩ := hall k hk
  have HC := Lib.hid (cellAt_yes n k h1 h2 hk)
  have HT : Hid (trA n k = #[.int .i64 (cp n k 0 : Nat), .int .i64 (cp n k 1 : Nat), .int .i64 (cp n k 2 : Nat)]) := Lib.hid rfl
  rw [HT.out] at HC
  have HU := Lib.hid (fun w => isUp_any n (cp n k 0) (cp n k 1) (cp n k 2) h1 h2 hp hq hr w)
  clear hall hlen
  go_enter Try.func24, Try.ntmps24
  go_wp2_with fail
  refine (meshOf_yes n h1 h2 _).mono ?_
  rintro e w1 ⟨rfl, hb1⟩
  have hB1 := balloc hb1 (.cells #[.int .i64 n] 44)
  have hg1 := heap_alloc_new w1 (.cells #[.int .i64 n] 44)
  have hz1 : (w1.alloc (.cells #[.int .i64 n] 44)).heap.size = w1.heap.size + 1 := by simp
  go_wp2_with fail
  refine (HC.out _).mono ?_
  rintro e w2 ⟨rfl, hb2⟩
  have hg2 := (hb2.block w1.heap.size (by omega)).trans hg1
  have hm2 := cell_of_row w2 w1.heap.size 0 _ _ (0, 0) hg2
  have hB2 := bnext hB1 hb2
  have hlt : w1.heap.size < w2.heap.size := (Array.getElem?_eq_some_iff.1 hg2).1
  clear hb1 hb2 hg1 hg2 hz1 hB1
  go_wp2_with fail
  refine (HU.out _).mono ?_
  rintro e w3 ⟨rfl, hb3⟩
  go_wp2_with fail
  go_ret2
  exact ⟨rfl, bnext (balloc hB2 _) hb3⟩
set_option maxHeartbeats 800000 in
theorem implIsUpCell_no (n k : Int) (h : ¬ (1 ≤ n ∧ n ≤ 8 ∧ 0 ≤ k ∧ k < ((ci n.toNat).length : Nat))) (w : World) :
    Calls Try.prog 24 #[.int .i64 n, .int .i64 k] w fun e w' => e = .returned (.tuple #[.bool false, .bool false]) ∧ Below w.heap.size w w' := by
  by_cases hn : 1 ≤ n ∧ n ≤ 8
  · obtain ⟨h1, h2⟩ := hn
    obtain ⟨n, rfl⟩ := Int.eq_ofNat_of_zero_le (show 0 ≤ n by omega)
    have hk : ¬ (0 ≤ k ∧ k < ((ci n).length : Int)) := fun hh => h ⟨h1, h2, hh.1, by rw [Int.toNat_natCast]; exact hh.2⟩
    have HC := Lib.hid (cellAt_no n k (by omega) (by omega) hk)
    have HZ : Hid (zspot = #[.int .i64 0, .int .i64 0, .int .i64 0]) := Lib.hid rfl
    rw [HZ.out] at HC
    clear h hk
    go_enter Try.func24, Try.ntmps24
    go_wp2_with fail
    refine (meshOf_yes n (by omega) (by omega) _).mono ?_
    rintro e w1 ⟨rfl, hb1⟩
    have hB1 := balloc hb1 (.cells #[.int .i64 n] 44)
    go_wp2_with fail
    refine (HC.out _).mono ?_
    rintro e w2 ⟨rfl, hb2⟩
    have hB2 := bnext hB1 hb2
    clear hb1 hb2 hB1
    go_wp2_with fail
    go_ret2
    exact ⟨rfl, balloc hB2 _⟩
  · clear h
    go_enter Try.func24, Try.ntmps24
    go_wp2_with fail
    refine (meshOf_no n hn _).mono ?_
    rintro e w1 ⟨rfl, hb1⟩
    go_wp2_with fail
    go_ret2
    exact ⟨rfl, balloc hb1 _⟩
end Go.Proofs.Ytgblcohgnagpcaa
