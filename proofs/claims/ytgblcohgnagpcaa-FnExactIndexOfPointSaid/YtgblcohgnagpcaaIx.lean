import Derived.Test.YtgblcohgnagpcaaZa
import Derived.Test.YtgblcohgnagpcaaBf
namespace Go.Proofs.Ytgblcohgnagpcaa
open Go.RowKit
set_option maxRecDepth 4000
theorem three {xs : List Int} (h : xs.length = 3) : ∃ x y z, xs = [x, y, z] := by
  match xs, h with
  | [x, y, z], _ => exact ⟨x, y, z, rfl⟩
/-- What IndexOfPoint answers. -/
def ixOk (n : Int) (xs : List Int) : Bool := decide (1 ≤ n ∧ n ≤ 8 ∧ xs.length = 3 ∧ allB 0 n xs = true ∧ xs.getD 0 0 + xs.getD 1 0 + xs.getD 2 0 = n)
def ixAt (n : Int) (xs : List Int) : Int := if ixOk n xs then ((Pr.T (n - xs.getD 0 0).toNat : Nat) : Int) + xs.getD 2 0 else 0
def Ix (w : World) (n : Int) (xs : List Int) (e : Ending) (w' : World) : Prop := e = .returned (.tuple #[.int .i64 (ixAt n xs), .bool (ixOk n xs)]) ∧ Below w.heap.size w w'
theorem ix_no {w w' : World} {n : Int} {xs : List Int} (h : ¬ (1 ≤ n ∧ n ≤ 8 ∧ xs.length = 3 ∧ allB 0 n xs = true ∧ xs.getD 0 0 + xs.getD 1 0 + xs.getD 2 0 = n)) (hb : Below w.heap.size w w') :
    Ix w n xs (.returned (.tuple #[.int .i64 0, .bool false])) w' := by
  have e : ixOk n xs = false := by simp only [ixOk]; exact decide_eq_false h
  exact ⟨by simp [ixAt, e], hb⟩
theorem ix_yes {w w' : World} {n : Int} {xs : List Int} (h : 1 ≤ n ∧ n ≤ 8 ∧ xs.length = 3 ∧ allB 0 n xs = true ∧ xs.getD 0 0 + xs.getD 1 0 + xs.getD 2 0 = n) (hb : Below w.heap.size w w') :
    Ix w n xs (.returned (.tuple #[.int .i64 (((Pr.T (n - xs.getD 0 0).toNat : Nat) : Int) + xs.getD 2 0), .bool true])) w' := by
  have e : ixOk n xs = true := by simp only [ixOk]; exact decide_eq_true h
  exact ⟨by simp [ixAt, e], hb⟩
set_option maxHeartbeats 800000 in
theorem specIx (n : Int) (xs : List Int) (a : Option Addr) (b len cap : Nat) (w : World) (hn : xs.length = len) (hlen : len ≤ 1048576) (h : Rd w a b 0 xs) :
    Calls Try.prog 21 #[.int .i64 n, .slice a len cap] w (Ix w n xs) := by
  subst hn
  by_cases hs : 1 ≤ n ∧ n ≤ 8
  · obtain ⟨h1, h2⟩ := hs
    obtain ⟨n, rfl⟩ := Int.eq_ofNat_of_zero_le (show 0 ≤ n by omega)
    by_cases h3 : xs.length = 3
    · have hRd := Lib.hid h
      have hall : ∀ m, Calls Try.prog 45 #[.slice a xs.length cap, .int .i64 0, .int .i64 n] (w.drewN m) fun e w' => e = .returned (.bool (allB 0 n xs)) ∧ w.drewN m = w' := fun m => l1All_any xs a b 0 _ cap 0 n _ rfl (h.same ((Same.refl w).drewN m))
      cases hA : allB 0 n xs
      · rw [hA] at hall
        have HAll := Lib.hid hall
        have hq : ((xs.length : Int) != 3) = false := by simp; omega
        have H3 := Lib.hid h3
        have HA := Lib.hid hA
        clear h hall h3 hA
        go_enter Try.func21, Try.ntmps21
        go_wp2_with fail
        go_quiet ((first | (go_at_call 44; exact Calls.quiet_of_same (flip (meSide_yes n (by omega) (by omega) _))) | (go_at_call 45; exact Calls.quiet_of_same (flip (HAll.out _)))))
        go_wp2_with fail
        go_ret2
        exact ix_no (fun h => by rw [HA.out] at h; exact absurd h.2.2.2.1 (by simp)) ((Same.refl w).drewN _ _)
      · rw [hA] at hall
        obtain ⟨x, y, z, rfl⟩ := three h3
        obtain ⟨ha, c0⟩ := h.2 0 (by simp)
        obtain ⟨-, c1⟩ := h.2 1 (by simp)
        obtain ⟨-, c2⟩ := h.2 2 (by simp)
        have b0 : 0 ≤ x ∧ x ≤ n := allB_at hA 0 (by simp)
        have b1 : 0 ≤ y ∧ y ≤ n := allB_at hA 1 (by simp)
        have b2 : 0 ≤ z ∧ z ≤ n := allB_at hA 2 (by simp)
        obtain ⟨x0, x1⟩ := b0
        obtain ⟨y0, y1⟩ := b1
        obtain ⟨z0, z1⟩ := b2
        subst ha
        simp only [Nat.zero_add, List.getD_cons_zero, List.getD_cons_succ] at c0 c1 c2
        have HAll := Lib.hid hall
        have HA := Lib.hid hA
        clear h hall hA h3
        by_cases hsum : x + y + z = n
        · have ht : (x + y + z != n) = false := by simpa using hsum
          have HN := Lib.hid hsum
          clear hsum
          show Calls _ _ #[_, .slice _ 3 _] _ _
          go_enter Try.func21, Try.ntmps21
          go_wp2_with fail
          go_quiet ((first | (go_at_call 44; exact Calls.quiet_of_same (flip (meSide_yes n (by omega) (by omega) _))) | (go_at_call 45; exact Calls.quiet_of_same (flip (HAll.out _)))))
          go_wp2_with fail

          refine (meIndex_any n x z b cap (by omega) x0 x1 z0 (by omega) _ (((Same.refl w).drewN _).cell _ |>.trans c0) (((Same.refl w).drewN _).cell _ |>.trans c2)).mono ?_
          rintro e w' ⟨rfl, rfl⟩
          go_wp2_with fail
          go_ret2
          exact ix_yes ⟨by omega, by omega, rfl, HA.out, HN.out⟩ ((Same.refl w).drewN _ _)
        · have HN := Lib.hid hsum
          have ht : (x + y + z != n) = true := by simpa using hsum
          clear hsum
          show Calls _ _ #[_, .slice _ 3 _] _ _
          go_enter Try.func21, Try.ntmps21
          go_wp2_with fail
          go_quiet ((first | (go_at_call 44; exact Calls.quiet_of_same (flip (meSide_yes n (by omega) (by omega) _))) | (go_at_call 45; exact Calls.quiet_of_same (flip (HAll.out _)))))
          go_wp2_with fail
          go_ret2
          exact ix_no (fun h => HN.out h.2.2.2.2) ((Same.refl w).drewN _ _)
    · have hq : ((xs.length : Int) != 3) = true := by simp; omega
      have H3 := Lib.hid h3
      clear h h3
      go_enter Try.func21, Try.ntmps21
      go_wp2_with fail
      go_quiet ((go_at_call 44; exact Calls.quiet_of_same (flip (meSide_yes n (by omega) (by omega) _))))
      go_wp2_with fail
      go_ret2
      exact ix_no (fun h => H3.out h.2.2.1) ((Same.refl w).drewN _ _)
  · have HS := Lib.hid hs
    clear h
    go_enter Try.func21, Try.ntmps21
    go_wp2_with fail
    go_quiet ((go_at_call 44; exact Calls.quiet_of_same (flip (meSide_no n HS.out _))))
    go_wp2_with fail
    go_ret2
    exact ix_no (fun h => HS.out ⟨h.1, h.2.1⟩) ((Same.refl w).drewN _ _)
end Go.Proofs.Ytgblcohgnagpcaa
