import Derived.Test.YtngadmjpjpmeoaaBase
import Derived.Test.YtngadmjpjpmeoaaSl
namespace Go.Proofs.Ytngadmjpjpmeoaa
open Go.RowKit
set_option maxHeartbeats 400000 in
theorem specPointAt_yes (n i : Nat) (h1 : 1 ≤ n) (h2 : n ≤ 8) (hi : i < Pr.cnt n) (w : World) :
    Calls Try.prog 17 #[.int .i64 n, .int .i64 i] w (Gives w 3 (pt n i) true) := by
  have hc := Pr.cnt_le n (by omega)
  go_enter Try.func17, Try.ntmps17
  go_wp2_with fail
  refine (mePoint_yes n i h1 h2 hi _).mono ?_
  rintro e w' ⟨rfl, rfl⟩
  go_wp2_with fail
  refine (meAt_any n i h1 h2 (by omega) _).mono ?_
  rintro e w' ⟨rfl, rfl⟩
  go_wp2_with fail
  go_ret2
  exact ⟨_, rfl, own_block (Nat.le_refl _) (heap_alloc_new _ _) (by simp [pt]) rfl (by simp [maxLen]), by go_grown⟩
set_option maxHeartbeats 400000 in
theorem specPointAt_no (n i : Int) (h : ¬ Pr.okPt n i) (w : World) :
    Calls Try.prog 17 #[.int .i64 n, .int .i64 i] w (Gives w 3 [] false) := by
  go_enter Try.func17, Try.ntmps17
  go_wp2_with fail
  refine (mePoint_no n i h _).mono ?_
  rintro e w' ⟨rfl, rfl⟩
  go_wp2_with fail
  go_ret2
  exact gives_none (Below.refl _ _)
set_option maxHeartbeats 400000 in
theorem implPointAt_yes (n i : Nat) (h1 : 1 ≤ n) (h2 : n ≤ 8) (hi : i < Pr.cnt n) (w : World) :
    Calls Try.prog 16 #[.int .i64 n, .int .i64 i] w (Gives w 66 (pt n i) true) := by
  have hc := Pr.cnt_le n (by omega)
  go_enter Try.func16, Try.ntmps16
  go_wp2_with fail
  refine (meshOf_yes n h1 h2 _).mono ?_
  rintro e w1 ⟨rfl, hb1⟩
  go_wp2_with fail
  refine (hasPoint_yes n i h2 hi _).mono ?_
  rintro e w2 ⟨rfl, hb2⟩
  have hm2 : w2.cell? ⟨w1.heap.size, 0, none⟩ = some (.int .i64 n) := by rw [hb2.cell (by simp)]; go_cell
  go_wp2_with fail
  refine (spotAt_any n i h1 h2 (by omega) _).mono ?_
  rintro e w3 ⟨rfl, hb3⟩
  go_wp2_with fail
  go_ret2
  have hB := bnext (bnext (balloc hb1 _) hb2) hb3
  exact ⟨_, rfl, own_block hB.size (heap_alloc_new _ _) (by simp [pt]) rfl (by simp [maxLen]), balloc hB _⟩
set_option maxHeartbeats 400000 in
theorem implPointAt_no (n i : Int) (h : ¬ Pr.okPt n i) (w : World) :
    Calls Try.prog 16 #[.int .i64 n, .int .i64 i] w (Gives w 66 [] false) := by
  by_cases hn : 1 ≤ n ∧ n ≤ 8
  · obtain ⟨h1, h2⟩ := hn
    obtain ⟨n, rfl⟩ := Int.eq_ofNat_of_zero_le (show 0 ≤ n by omega)
    have hi : ¬ (0 ≤ i ∧ i < (Pr.cnt n : Nat)) := fun ⟨h3, h4⟩ => h ⟨h1, h2, h3, by simpa using h4⟩
    clear h
    go_enter Try.func16, Try.ntmps16
    go_wp2_with fail
    refine (meshOf_yes n (by omega) (by omega) _).mono ?_
    rintro e w1 ⟨rfl, hb1⟩
    go_wp2_with fail
    refine (hasPoint_no n i (by omega) hi _).mono ?_
    rintro e w2 ⟨rfl, hb2⟩
    go_wp2_with fail
    go_ret2
    exact gives_none (bnext (balloc hb1 _) hb2)
  · clear h
    go_enter Try.func16, Try.ntmps16
    go_wp2_with fail
    refine (meshOf_no n hn _).mono ?_
    rintro e w1 ⟨rfl, hb1⟩
    go_wp2_with fail
    go_ret2
    exact gives_none (balloc hb1 _)
end Go.Proofs.Ytngadmjpjpmeoaa
