import Derived.Test.YtjbdhgomcchoaaaCm
import Derived.Test.YtjbdhgomcchoaaaQu
namespace Go.Proofs.Ytjbdhgomcchoaaa
open Go.RowKit
set_option maxHeartbeats 800000 in
theorem areNeighbours_yes (n i j : Nat) (h1 : 1 ≤ n) (h2 : n ≤ 8) (hi : i < Pr.cnt n) (hj : j < Pr.cnt n) (w : World) :
    Calls Try.prog 54 #[.agg #[.int .i64 n], .int .i64 i, .int .i64 j] w fun e w' => e = .returned (.bool (nearB (pt n i) (pt n j))) ∧ Below w.heap.size w w' := by
  have hc := (Pr.cnt_le n (by omega)).1
  have hB0 := balloc (Below.refl w.heap.size w) (.cells #[.int .i64 n] 51)
  have hm0 : (w.alloc (.cells #[.int .i64 n] 51)).cell? ⟨w.heap.size, 0, none⟩ = some (.int .i64 n) := by go_cell
  have hlt : w.heap.size < (w.alloc (.cells #[.int .i64 n] 51)).heap.size := by simp
  go_enter Try.func54, Try.ntmps54
  go_wp2_with fail
  refine wp_region_below (by kernel_rfl) (by kernel_rfl) ?_
  intro ι hne f hbf hcl
  have hm : ∀ i, (f i).cell? ⟨w.heap.size, 0, none⟩ = some (.int .i64 n) := fun i => ((hbf i).cell (p := ⟨w.heap.size, 0, none⟩) hlt).trans hm0
  repeat (go_big_quiet_step (first | (go_at_call 82; first | (with_reducible refine (hasPoint_yes n i h2 hi _).mono ?_; rintro e w' ⟨rfl, hb⟩; exact ⟨rfl, hcl _ _ hb⟩) | (with_reducible refine (hasPoint_yes n j h2 hj _).mono ?_; rintro e w' ⟨rfl, hb⟩; exact ⟨rfl, hcl _ _ hb⟩)) | (go_at_call 83; first | (with_reducible refine (spotAt_any n i h1 h2 (by omega) _).mono ?_; rintro e w' ⟨rfl, hb⟩; exact ⟨rfl, hcl _ _ hb⟩) | (with_reducible refine (spotAt_any n j h1 h2 (by omega) _).mono ?_; rintro e w' ⟨rfl, hb⟩; exact ⟨rfl, hcl _ _ hb⟩)) | (go_at_call 84; refine (isBeside_any n i j h2 (by omega) (by omega) _).mono ?_; rintro e w' ⟨rfl, hb⟩; exact ⟨rfl, hcl _ _ hb⟩)))
  refine wpQuiet_nil ?_
  rintro _ ⟨i, rfl⟩
  have hb := bnext hB0 (hbf i)
  generalize f i = w' at hb ⊢
  go_wp2_with fail
  go_ret
  exact ⟨rfl, hb⟩
set_option maxHeartbeats 800000 in
theorem areNeighbours_no (n : Nat) (i j : Int) (_ : 1 ≤ n) (h2 : n ≤ 8) (h : ¬ ((0 ≤ i ∧ i < (Pr.cnt n : Nat)) ∧ (0 ≤ j ∧ j < (Pr.cnt n : Nat)))) (w : World) :
    Calls Try.prog 54 #[.agg #[.int .i64 n], .int .i64 i, .int .i64 j] w fun e w' => e = .returned (.bool false) ∧ Below w.heap.size w w' := by
  have hB0 := balloc (Below.refl w.heap.size w) (.cells #[.int .i64 n] 51)
  have hm0 : (w.alloc (.cells #[.int .i64 n] 51)).cell? ⟨w.heap.size, 0, none⟩ = some (.int .i64 n) := by go_cell
  have hlt : w.heap.size < (w.alloc (.cells #[.int .i64 n] 51)).heap.size := by simp
  by_cases hi : 0 ≤ i ∧ i < (Pr.cnt n : Nat)
  · have hj : ¬ (0 ≤ j ∧ j < (Pr.cnt n : Nat)) := fun hj => h ⟨hi, hj⟩
    obtain ⟨hi0, hi1⟩ := hi
    obtain ⟨i, rfl⟩ := Int.eq_ofNat_of_zero_le hi0
    have hi : i < Pr.cnt n := by omega
    clear h
    go_enter Try.func54, Try.ntmps54
    go_wp2_with fail
    refine wp_region_below (by kernel_rfl) (by kernel_rfl) ?_
    intro ι hne f hbf hcl
    have hm : ∀ i, (f i).cell? ⟨w.heap.size, 0, none⟩ = some (.int .i64 n) := fun i => ((hbf i).cell (p := ⟨w.heap.size, 0, none⟩) hlt).trans hm0
    repeat (go_big_quiet_step (first | (go_at_call 82; first | (with_reducible refine (hasPoint_yes n i h2 hi _).mono ?_; rintro e w' ⟨rfl, hb⟩; exact ⟨rfl, hcl _ _ hb⟩) | (with_reducible refine (hasPoint_no n j h2 hj _).mono ?_; rintro e w' ⟨rfl, hb⟩; exact ⟨rfl, hcl _ _ hb⟩))))
    refine wpQuiet_nil ?_
    rintro _ ⟨i, rfl⟩
    have hb := bnext hB0 (hbf i)
    generalize f i = w' at hb ⊢
    go_wp2_with fail
    go_ret
    exact ⟨rfl, hb⟩
  · clear h
    go_enter Try.func54, Try.ntmps54
    go_wp2_with fail
    refine wp_region_below (by kernel_rfl) (by kernel_rfl) ?_
    intro ι hne f hbf hcl
    have hm : ∀ i, (f i).cell? ⟨w.heap.size, 0, none⟩ = some (.int .i64 n) := fun i => ((hbf i).cell (p := ⟨w.heap.size, 0, none⟩) hlt).trans hm0
    repeat (go_big_quiet_step (first | (go_at_call 82; with_reducible refine (hasPoint_no n i h2 hi _).mono ?_; rintro e w' ⟨rfl, hb⟩; exact ⟨rfl, hcl _ _ hb⟩)))
    refine wpQuiet_nil ?_
    rintro _ ⟨i, rfl⟩
    have hb := bnext hB0 (hbf i)
    generalize f i = w' at hb ⊢
    go_wp2_with fail
    go_ret
    exact ⟨rfl, hb⟩
end Go.Proofs.Ytjbdhgomcchoaaa
