import Derived.Test.YtgpikaolgalpbaaYo
namespace Go.Proofs.Ytgpikaolgalpbaa
open Go.RowKit
set_option maxRecDepth 4000
/-- The label one step on. -/
def nl (x : Int) : Int := if x = 1 then 2 else if x = 2 then -1 else if x = -1 then -2 else 1
set_option maxHeartbeats 400000 in
theorem nextLabel_any (x : Int) (w : World) :
    Calls Try.prog 104 #[.int .i64 x] w fun e w' => e = .returned (.int .i64 (nl x)) ∧ w = w' := by
  by_cases h1 : x = 1
  · subst h1
    go_enter Try.func104, Try.ntmps104
    go_wp2
    go_ret
    exact ⟨rfl, rfl⟩
  · by_cases h2 : x = 2
    · subst h2
      go_enter Try.func104, Try.ntmps104
      go_wp2
      go_ret
      exact ⟨rfl, rfl⟩
    · by_cases h3 : x = -1
      · subst h3
        go_enter Try.func104, Try.ntmps104
        go_wp2
        go_ret
        exact ⟨rfl, rfl⟩
      · have e1 : (x == 1) = false := by simpa using h1
        have e2 : (x == 2) = false := by simpa using h2
        have e3 : (x == -1) = false := by simpa using h3
        have HN : Hid (nl x = 1) := Lib.hid (by simp [nl, h1, h2, h3])
        clear h1 h2 h3
        go_enter Try.func104, Try.ntmps104
        go_wp2
        go_ret
        exact ⟨ret_int HN.out.symm, rfl⟩
set_option maxHeartbeats 400000 in
theorem negAt_any (n : Int) (xs : List Int) (a : Option Addr) (b len cap i : Nat) (w : World) (hn : xs.length = len) (h : Rd w a b 0 xs) (hb0 : len = 0 ∨ b < w.heap.size) (hA : all4 xs = true) (hi : i < len) :
    Calls Try.prog 125 #[.agg #[.iface 69 (.agg (lqA n a len cap))], .int .i64 i] w fun e w' => e = .returned (.int .i64 (-(xs.getD i 0))) ∧ Below w.heap.size w w' := by
  unfold lqA
  have hm0 : ∀ w : World, (method 231 69 (.agg #[.int .i64 n, .iface 101 (.slice a len cap)]) "loop.example/g01160/impl.labelAt").run Try.prog w = .ok (128, .slice a len cap) w := fun _ => by kernel_rfl
  have HD := Lib.hid (fun W (hB : Below w.heap.size w W) => labelAt_any xs a b len cap i W hn (h.later hn hb0 hB) hi)
  obtain ⟨l0, l1, l2⟩ := all4_at hA i (by omega)
  have hB := balloc (Below.refl w.heap.size w) (.cells #[.iface 69 (.agg #[.int .i64 n, .iface 101 (.slice a len cap)])] 76)
  generalize xs.getD i 0 = x at *
  clear h hn hA
  go_enter Try.func125, Try.ntmps125
  go_wp2_with fail
  refine (HD.out _ hB).mono ?_
  rintro e w1 ⟨rfl, rfl⟩
  go_wp2_with fail
  go_ret
  exact ⟨rfl, hB⟩
set_option maxHeartbeats 400000 in
theorem turnAt_any (n : Int) (xs : List Int) (a : Option Addr) (b len cap i : Nat) (w : World) (hn : xs.length = len) (h : Rd w a b 0 xs) (hb0 : len = 0 ∨ b < w.heap.size) (hA : all4 xs = true) (hi : i < len) :
    Calls Try.prog 127 #[.agg #[.iface 69 (.agg (lqA n a len cap))], .int .i64 i] w fun e w' => e = .returned (.int .i64 (nl (xs.getD i 0))) ∧ Below w.heap.size w w' := by
  unfold lqA
  have hm0 : ∀ w : World, (method 231 69 (.agg #[.int .i64 n, .iface 101 (.slice a len cap)]) "loop.example/g01160/impl.labelAt").run Try.prog w = .ok (128, .slice a len cap) w := fun _ => by kernel_rfl
  have HD := Lib.hid (fun W (hB : Below w.heap.size w W) => labelAt_any xs a b len cap i W hn (h.later hn hb0 hB) hi)
  obtain ⟨l0, l1, l2⟩ := all4_at hA i (by omega)
  have hB := balloc (Below.refl w.heap.size w) (.cells #[.iface 69 (.agg #[.int .i64 n, .iface 101 (.slice a len cap)])] 97)
  generalize xs.getD i 0 = x at *
  clear h hn hA
  go_enter Try.func127, Try.ntmps127
  go_wp2_with fail
  refine (HD.out _ hB).mono ?_
  rintro e w1 ⟨rfl, rfl⟩
  go_wp2_with fail
  refine (nextLabel_any x _).mono ?_
  rintro e w1 ⟨rfl, rfl⟩
  go_wp2_with fail
  go_ret
  exact ⟨rfl, hB⟩
theorem negMeth (n : Int) (a : Option Addr) (len cap : Nat) (w : World) : (method 231 76 (.agg #[.iface 69 (.agg (lqA n a len cap))]) "loop.example/g01160/impl.labelAt").run Try.prog w = .ok (125, .agg #[.iface 69 (.agg (lqA n a len cap))]) w := by kernel_rfl
theorem turnMeth (n : Int) (a : Option Addr) (len cap : Nat) (w : World) : (method 231 97 (.agg #[.iface 69 (.agg (lqA n a len cap))]) "loop.example/g01160/impl.labelAt").run Try.prog w = .ok (127, .agg #[.iface 69 (.agg (lqA n a len cap))]) w := by kernel_rfl
/-- What a function does that answers labels made one by one, or nothing. -/
def outEach (g : Int → Int) (n : Int) (xs : List Int) : List Int := if sqB n xs then xs.map g else []
theorem outEach_len (g : Int → Int) (n : Int) (xs : List Int) : (outEach g n xs).length ≤ 1000 := by
  unfold outEach
  cases hL : sqB n xs
  · simp
  · obtain ⟨m, rfl, h1, h2, hl, -⟩ := sqB_nat hL
    have := sqn_le m h2
    simp; omega
theorem map_range (g : Int → Int) (xs : List Int) : (List.range xs.length).map (fun k => g (xs.getD k 0)) = xs.map g := by
  apply List.ext_getElem?
  intro i
  rw [List.getElem?_map, List.getElem?_map]
  by_cases h : i < xs.length
  · rw [List.getElem?_range h, List.getElem?_eq_getElem h]
    simp [List.getD, h]
  · rw [List.getElem?_eq_none (by simpa using h), List.getElem?_eq_none (by omega)]; rfl
set_option maxHeartbeats 800000 in
theorem implNegateLabels (n : Int) (xs : List Int) (a : Option Addr) (b len cap : Nat) (w : World) (hn : xs.length = len) (hsm : len ≤ 1048576) (h : Rd w a b 0 xs) (hb0 : len = 0 ∨ b < w.heap.size) :
    Calls Try.prog 35 #[.int .i64 n, .slice a len cap] w (Gives w 3 (outEach (fun x => -x) n xs) (sqB n xs)) := by
  cases hL : sqB n xs
  · have H1 : Hid (outEach (fun x => -x) n xs = []) := Lib.hid (by simp [outEach, hL])
    have HR := Lib.hid (lsqOf_no n xs a b len cap w hn h hb0 hsm hL)
    rw [H1.out]
    clear hL hn h hb0
    go_enter Try.func35, Try.ntmps35
    go_wp2_with fail
    refine HR.out.mono ?_
    rintro e w1 ⟨rfl, hb1⟩
    unfold lq0
    go_wp2_with fail
    go_ret2
    exact gives_none (balloc hb1 _)
  · have HR := Lib.hid (lsqOf_yes n xs a b len cap w hn h hb0 hsm hL)
    obtain ⟨n, rfl, h1, h2, hl, hA⟩ := sqB_nat hL
    have H1 : Hid ((List.range (sqn n)).map (fun k => (fun x => -x) (xs.getD k 0)) = outEach (fun x => -x) n xs) := Lib.hid (by rw [← hl, map_range]; simp [outEach, hL])
    have HL1 : Hid ((outEach (fun x => -x) n xs).length = sqn n) := Lib.hid (by rw [← H1.out]; simp)
    have HAT := Lib.hid (fun W (hB : Below w.heap.size w W) k (hk : k < sqn n) => negAt_any n xs a b len cap k W hn (h.later hn hb0 hB) (by have := hB.size; omega) hA (by omega))
    clear hL hn h hb0 hA hl
    go_enter Try.func35, Try.ntmps35
    go_wp2_with fail
    refine HR.out.mono ?_
    rintro e w1 ⟨rfl, hb1⟩
    have hB1 := balloc hb1 (.cells (lqA n a len cap) 69)
    unfold lqA at hB1 ⊢
    go_wp2_with fail
    refine (listNeg_any n (.agg #[.iface 69 (.agg (lqA n a len cap))]) (fun k => (fun x => -x) (xs.getD k 0)) h1 h2 _ (negMeth n a len cap) (fun W hB k hk => HAT.out W (bnext hB1 hB) k hk)).mono ?_
    rintro e w2 ⟨u, rfl, ho, hb2⟩
    rw [H1.out] at ho
    obtain ⟨-, ua, uc, ub, rfl, -, -⟩ := own_shape ho
    have hB2 := bnext hB1 hb2
    go_wp2_with fail
    go_ret2
    exact ⟨_, rfl, by rw [HL1.out]; exact own_lo ho hB1.size, hB2⟩
set_option maxHeartbeats 800000 in
theorem implAddTurn (n : Int) (xs : List Int) (a : Option Addr) (b len cap : Nat) (w : World) (hn : xs.length = len) (hsm : len ≤ 1048576) (h : Rd w a b 0 xs) (hb0 : len = 0 ∨ b < w.heap.size) :
    Calls Try.prog 45 #[.int .i64 n, .slice a len cap] w (Gives w 3 (outEach (nl) n xs) (sqB n xs)) := by
  cases hL : sqB n xs
  · have H1 : Hid (outEach (nl) n xs = []) := Lib.hid (by simp [outEach, hL])
    have HR := Lib.hid (lsqOf_no n xs a b len cap w hn h hb0 hsm hL)
    rw [H1.out]
    clear hL hn h hb0
    go_enter Try.func45, Try.ntmps45
    go_wp2_with fail
    refine HR.out.mono ?_
    rintro e w1 ⟨rfl, hb1⟩
    unfold lq0
    go_wp2_with fail
    go_ret2
    exact gives_none (balloc hb1 _)
  · have HR := Lib.hid (lsqOf_yes n xs a b len cap w hn h hb0 hsm hL)
    obtain ⟨n, rfl, h1, h2, hl, hA⟩ := sqB_nat hL
    have H1 : Hid ((List.range (sqn n)).map (fun k => (nl) (xs.getD k 0)) = outEach (nl) n xs) := Lib.hid (by rw [← hl, map_range]; simp [outEach, hL])
    have HL1 : Hid ((outEach (nl) n xs).length = sqn n) := Lib.hid (by rw [← H1.out]; simp)
    have HAT := Lib.hid (fun W (hB : Below w.heap.size w W) k (hk : k < sqn n) => turnAt_any n xs a b len cap k W hn (h.later hn hb0 hB) (by have := hB.size; omega) hA (by omega))
    clear hL hn h hb0 hA hl
    go_enter Try.func45, Try.ntmps45
    go_wp2_with fail
    refine HR.out.mono ?_
    rintro e w1 ⟨rfl, hb1⟩
    have hB1 := balloc hb1 (.cells (lqA n a len cap) 69)
    unfold lqA at hB1 ⊢
    go_wp2_with fail
    refine (listTurn_any n (.agg #[.iface 69 (.agg (lqA n a len cap))]) (fun k => (nl) (xs.getD k 0)) h1 h2 _ (turnMeth n a len cap) (fun W hB k hk => HAT.out W (bnext hB1 hB) k hk)).mono ?_
    rintro e w2 ⟨u, rfl, ho, hb2⟩
    rw [H1.out] at ho
    obtain ⟨-, ua, uc, ub, rfl, -, -⟩ := own_shape ho
    have hB2 := bnext hB1 hb2
    go_wp2_with fail
    go_ret2
    exact ⟨_, rfl, by rw [HL1.out]; exact own_lo ho hB1.size, hB2⟩
end Go.Proofs.Ytgpikaolgalpbaa
