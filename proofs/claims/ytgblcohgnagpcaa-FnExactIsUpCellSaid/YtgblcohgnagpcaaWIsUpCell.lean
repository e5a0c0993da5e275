import Derived.Test.YtgblcohgnagpcaaUl
namespace Go.Proofs.Ytgblcohgnagpcaa
open Go.RowKit
set_option maxRecDepth 4000
set_option maxHeartbeats 400000 in
/-- The law of IsUpCell, over what both sides answer. -/
theorem lawOf_IsUpCell (n k : Int) (x ok : Bool)
    (hs : ∀ w, Calls Try.prog 23 #[.int .i64 n, .int .i64 k] w fun e w' => e = .returned (.tuple #[.bool x, .bool ok]) ∧ Below w.heap.size w w')
    (hi : ∀ w, Calls Try.prog 24 #[.int .i64 n, .int .i64 k] w fun e w' => e = .returned (.tuple #[.bool x, .bool ok]) ∧ Below w.heap.size w w') (w : World) :
    Calls Try.prog 6 #[.int .i64 n, .int .i64 k] w fun e w' => e = .returned (.bool true) ∧ Below w.heap.size w w' := by
  have HS := Lib.hid hs
  have HI := Lib.hid hi
  clear hs hi
  have hok : (ok != ok) = false := by simp
  have hxx : (x != x) = false := by simp
  go_enter Try.func6, Try.ntmps6
  go_wp2_with fail
  refine (HS.out _).mono ?_
  rintro e w1 ⟨rfl, hb1⟩
  go_wp2_with fail
  refine (HI.out _).mono ?_
  rintro e w2 ⟨rfl, hb2⟩
  go_wp2_with fail
  go_ret
  exact ⟨rfl, bnext hb1 hb2⟩
theorem law_IsUpCell (n : Int) (_ : (Lit.int .i64 n).wf = true) (k : Int) (_ : (Lit.int .i64 k).wf = true) (w : World) :
    Calls Try.prog 6 #[.int .i64 n, .int .i64 k] w fun e w' => e = .returned (.bool true) ∧ Below w.heap.size w w' := by
  by_cases h : 1 ≤ n ∧ n ≤ 8 ∧ 0 ≤ k ∧ k < ((ci n.toNat).length : Nat)
  · obtain ⟨h1, h2, h3, h4⟩ := h
    obtain ⟨n, rfl⟩ := Int.eq_ofNat_of_zero_le (show 0 ≤ n by omega)
    obtain ⟨k, rfl⟩ := Int.eq_ofNat_of_zero_le h3
    rw [Int.toNat_natCast] at h4
    exact lawOf_IsUpCell n k _ _ (fun w => specIsUpCell_yes n k (by omega) (by omega) (by omega) w) (fun w => implIsUpCell_yes n k (by omega) (by omega) (by omega) w) w
  · exact lawOf_IsUpCell n k _ _ (fun w => specIsUpCell_no n k h w) (fun w => implIsUpCell_no n k h w) w
end Go.Proofs.Ytgblcohgnagpcaa
