import Derived.Test.YtgpikaolgalpbaaYm
namespace Go.Proofs.Ytgpikaolgalpbaa
open Go.RowKit
set_option maxRecDepth 4000
theorem ret_bb {a b c d : Bool} (h : a = c) (k : b = d) : Ending.returned (.tuple #[.bool a, .bool b]) = .returned (.tuple #[.bool c, .bool d]) := by rw [h, k]
def okAre (n : Int) : Bool := decide (1 ≤ n ∧ n ≤ 4)
theorem are_reach {n : Int} {xs : List Int} (h : ¬ (1 ≤ n ∧ n ≤ 4)) : okOpp n xs = false ∧ okAre n = false := by
  refine ⟨by simp [okOpp, sqB_reach h], decide_eq_false h⟩
set_option maxHeartbeats 400000 in
theorem specAreOpposite (n : Int) (xs : List Int) (a : Option Addr) (b len cap : Nat) (w : World) (hn : xs.length = len) (hsm : len ≤ 1048576) (h : Rd w a b 0 xs) (hb0 : len = 0 ∨ b < w.heap.size) :
    Calls Try.prog 31 #[.int .i64 n, .slice a len cap] w fun e w' => e = .returned (.tuple #[.bool (okOpp n xs), .bool (okAre n)]) ∧ Below w.heap.size w w' := by
  have HM := Lib.hid (opIs_any n xs a b len cap w hn hsm h hb0)
  by_cases hr : 1 ≤ n ∧ n ≤ 4
  · have HK : Hid (okAre n = true) := Lib.hid (decide_eq_true hr)
    obtain ⟨h1, h2⟩ := hr
    clear h
    go_enter Try.func31, Try.ntmps31
    go_wp2_with fail
    refine (opReach_yes n h1 h2 _).mono ?_
    rintro e w' ⟨rfl, rfl⟩
    go_wp2_with fail
    refine HM.out.mono ?_
    rintro e w1 ⟨rfl, hb⟩
    go_wp2_with fail
    go_returns
    exact ⟨ret_bb rfl HK.out.symm, hb⟩
  · have HK := Lib.hid (are_reach (xs := xs) hr)
    clear h
    go_enter Try.func31, Try.ntmps31
    go_wp2_with fail
    refine (opReach_no n hr _).mono ?_
    rintro e w' ⟨rfl, rfl⟩
    go_wp2_with fail
    go_returns
    exact ⟨ret_bb HK.out.1.symm HK.out.2.symm, Below.refl _ _⟩
set_option maxHeartbeats 800000 in
theorem implAreOpposite (n : Int) (xs : List Int) (a : Option Addr) (b len cap : Nat) (w : World) (hn : xs.length = len) (hsm : len ≤ 1048576) (h : Rd w a b 0 xs) (hb0 : len = 0 ∨ b < w.heap.size) :
    Calls Try.prog 33 #[.int .i64 n, .slice a len cap] w fun e w' => e = .returned (.tuple #[.bool (okOpp n xs), .bool (okAre n)]) ∧ Below w.heap.size w w' := by
  by_cases hr : 1 ≤ n ∧ n ≤ 4
  · have HK : Hid (okAre n = true) := Lib.hid (decide_eq_true hr)
    obtain ⟨h1, h2⟩ := hr
    have HRL := Lib.hid (fun W (hB : Below w.heap.size w W) => h.later hn hb0 hB)
    have HN := Lib.hid hn
    cases hL : sqB n xs
    · have H1 : Hid (okOpp n xs = false) := Lib.hid (by simp [okOpp, hL])
      have HL := Lib.hid hL
      clear hL h hn
      go_enter Try.func33, Try.ntmps33
      go_wp2_with fail
      refine (squareOf_yes n h1 h2 _).mono ?_
      rintro e w1 ⟨rfl, hb1⟩
      have hB1 := balloc hb1 (.cells #[.int .i64 n] 51)
      clear hb1
      go_wp2_with fail
      refine (withLabels_no n xs a b len cap _ h1 h2 HN.out (HRL.out _ hB1) (by have := hB1.size; omega) hsm HL.out).mono ?_
      rintro e w2 ⟨rfl, hb2⟩
      have hB2 := balloc (bnext hB1 hb2) (.cells #[.int .i64 0, .nilIface] 69)
      unfold lq0
      go_wp2_with fail
      go_returns
      exact ⟨ret_bb H1.out.symm HK.out.symm, hB2⟩
    · obtain ⟨n, rfl, -⟩ := sqB_nat hL
      have H1 : Hid (okOpp n xs = oppB n xs) := Lib.hid (by simp [okOpp, hL])
      have HL := Lib.hid hL
      clear hL h hn
      go_enter Try.func33, Try.ntmps33
      go_wp2_with fail
      refine (squareOf_yes n h1 h2 _).mono ?_
      rintro e w1 ⟨rfl, hb1⟩
      have hB1 := balloc hb1 (.cells #[.int .i64 n] 51)
      clear hb1
      go_wp2_with fail
      refine (withLabels_yes n xs a b len cap _ HN.out (HRL.out _ hB1) (by have := hB1.size; omega) hsm HL.out).mono ?_
      rintro e w2 ⟨rfl, hb2⟩
      have hB2 := balloc (bnext hB1 hb2) (.cells (lqA n a len cap) 69)
      unfold lqA at hB2 ⊢
      go_wp2_with fail
      refine (areOpposite_any n xs a b len cap _ HN.out (HRL.out _ hB2) (by have := hB2.size; omega) HL.out).mono ?_
      rintro e w3 ⟨rfl, hb3⟩
      go_wp2_with fail
      go_returns
      exact ⟨ret_bb H1.out.symm HK.out.symm, bnext hB2 hb3⟩
  · have HK := Lib.hid (are_reach (xs := xs) hr)
    clear h
    go_enter Try.func33, Try.ntmps33
    go_wp2_with fail
    refine (squareOf_no n hr _).mono ?_
    rintro e w1 ⟨rfl, hb1⟩
    go_wp2_with fail
    go_returns
    exact ⟨ret_bb HK.out.1.symm HK.out.2.symm, balloc hb1 _⟩
end Go.Proofs.Ytgpikaolgalpbaa
