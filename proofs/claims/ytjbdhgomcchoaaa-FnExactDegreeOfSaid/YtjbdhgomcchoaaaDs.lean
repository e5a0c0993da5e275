import Derived.Test.YtjbdhgomcchoaaaRq
import Derived.Test.YtjbdhgomcchoaaaCr
namespace Go.Proofs.Ytjbdhgomcchoaaa
open Go.RowKit
/-- Whether there are labels, and two points that are neighbours. -/
def ptB (n i : Int) : Bool := decide (0 ≤ i ∧ i < (Pr.cnt n.toNat : Nat))
def pairB (n : Int) (xs : List Int) (i j : Int) : Bool := labB n xs && (ptB n i && (ptB n j && nearB (pt n.toNat i.toNat) (pt n.toNat j.toNat)))
theorem ptB_yes {n : Nat} {i : Int} (h : ptB n i = true) : ∃ k : Nat, i = k ∧ k < Pr.cnt n := by
  simp only [ptB, decide_eq_true_eq, Int.toNat_natCast] at h
  obtain ⟨k, rfl⟩ := Int.eq_ofNat_of_zero_le h.1
  exact ⟨k, rfl, by omega⟩
theorem ptB_no {n : Nat} {i : Int} (h : ptB n i = false) : ¬ (0 ≤ i ∧ i < (Pr.cnt n : Nat)) := by
  simpa [ptB] using h
theorem ptB_not {n : Nat} {i : Int} (h : ptB n i = false) : ¬ Pr.okPt n i := fun hh => ptB_no h ⟨hh.2.2.1, by simpa using hh.2.2.2⟩
theorem labB_nat {n : Int} {xs : List Int} (h : labB n xs = true) : ∃ m : Nat, n = m := by
  simp only [labB, decide_eq_true_eq] at h
  obtain ⟨m, rfl⟩ := Int.eq_ofNat_of_zero_le (show 0 ≤ n by omega)
  exact ⟨m, rfl⟩
theorem ret_b {x : Value} {b : Bool} (h : b = true) (hx : x = .bool true) : Ending.returned x = .returned (.bool b) := by rw [hx, h]
theorem ret_f {x : Value} {b : Bool} (h : b = false) (hx : x = .bool false) : Ending.returned x = .returned (.bool b) := by rw [hx, h]
set_option maxHeartbeats 800000 in
theorem doPair_any (n : Int) (xs : List Int) (i j : Int) (a : Option Addr) (b len cap : Nat) (w : World) (hn : xs.length = len) (h : Rd w a b 0 xs) :
    Calls Try.prog 59 #[.int .i64 n, .slice a len cap, .int .i64 i, .int .i64 j] w fun e w' => e = .returned (.bool (pairB n xs i j)) ∧ Below w.heap.size w w' := by
  have HM := Lib.hid (meLabels_any n xs a b 0 len cap w hn h)
  clear h
  cases hL : labB n xs
  · have HP : Hid (pairB n xs i j = false) := Lib.hid (by simp [pairB, hL])
    rw [hL] at HM
    clear hL
    go_enter Try.func59, Try.ntmps59
    go_wp2_with fail
    refine HM.out.mono ?_
    rintro e w1 ⟨rfl, rfl⟩
    go_wp2_with fail
    go_ret
    exact ⟨ret_f HP.out rfl, Below.refl _ _⟩
  · obtain ⟨n, rfl⟩ := labB_nat hL
    obtain ⟨h1, h2, hl, -⟩ := labB_yes hL
    have hcn := (Pr.cnt_le n (by omega)).1
    rw [hL] at HM
    cases hi : ptB n i
    · have HP : Hid (pairB n xs i j = false) := Lib.hid (by simp [pairB, hi])
      have HI := Lib.hid (ptB_not hi)
      clear hL hi hl
      go_enter Try.func59, Try.ntmps59
      go_wp2_with fail
      refine HM.out.mono ?_
      rintro e w1 ⟨rfl, rfl⟩
      go_wp2_with fail
      refine (mePoint_no n i HI.out _).mono ?_
      rintro e w1 ⟨rfl, rfl⟩
      go_wp2_with fail
      go_ret
      exact ⟨ret_f HP.out rfl, Below.refl _ _⟩
    · obtain ⟨i, rfl, hi'⟩ := ptB_yes hi
      cases hj : ptB n j
      · have HP : Hid (pairB n xs i j = false) := Lib.hid (by simp [pairB, hj])
        have HJ := Lib.hid (ptB_not hj)
        clear hL hi hj hl
        go_enter Try.func59, Try.ntmps59
        go_wp2_with fail
        refine HM.out.mono ?_
        rintro e w1 ⟨rfl, rfl⟩
        go_wp2_with fail
        refine (mePoint_yes n i h1 h2 hi' _).mono ?_
        rintro e w1 ⟨rfl, rfl⟩
        go_wp2_with fail
        refine (mePoint_no n j HJ.out _).mono ?_
        rintro e w1 ⟨rfl, rfl⟩
        go_wp2_with fail
        go_ret
        exact ⟨ret_f HP.out rfl, Below.refl _ _⟩
      · obtain ⟨j, rfl, hj'⟩ := ptB_yes hj
        have HP : Hid (pairB n xs i j = nearB (pt n i) (pt n j)) := Lib.hid (by simp [pairB, hL, hi, hj])
        clear hL hi hj hl
        go_enter Try.func59, Try.ntmps59
        go_wp2_with fail
        refine HM.out.mono ?_
        rintro e w1 ⟨rfl, rfl⟩
        go_wp2_with fail
        refine (mePoint_yes n i h1 h2 hi' _).mono ?_
        rintro e w1 ⟨rfl, rfl⟩
        go_wp2_with fail
        refine (mePoint_yes n j h1 h2 hj' _).mono ?_
        rintro e w1 ⟨rfl, rfl⟩
        go_wp2_with fail
        refine (meNear_any n i j h1 h2 (by omega) (by omega) _).mono ?_
        rintro e w2 ⟨rfl, hb2⟩
        go_wp2_with fail
        go_ret
        exact ⟨by rw [HP.out]; rfl, hb2⟩
set_option maxHeartbeats 400000 in
theorem doDoor_any (xs : List Int) (i j : Nat) (a : Option Addr) (b len cap : Nat) (w : World) (hn : xs.length = len) (h : Rd w a b 0 xs) (hA : allB 0 2 xs = true) (hi : i < xs.length) (hj : j < xs.length) :
    Calls Try.prog 60 #[.slice a len cap, .int .i64 i, .int .i64 j] w fun e w' => e = .returned (.bool (doorB xs i j)) ∧ ∃ m, w' = w.drewN m := by
  subst hn
  obtain ⟨ha, ci'⟩ := h.2 i hi
  have cj' := (h.2 j hj).2
  subst ha
  have bi := allB_at hA i hi
  have bj := allB_at hA j hj
  have hm := h.1
  unfold maxLen at hm
  have HD : Hid (doorB xs i j = (xs.getD i 0 + xs.getD j 0 == 1)) := Lib.hid (by simp [doorB])
  have hii : (i : Int) < (xs.length : Int) := by omega
  have hjj : (j : Int) < (xs.length : Int) := by omega
  rw [Nat.zero_add] at ci' cj'
  clear h hA
  generalize xs.getD i 0 = x at ci' bi HD
  generalize xs.getD j 0 = y at cj' bj HD
  go_enter Try.func60, Try.ntmps60
  go_wp2_with fail
  go_quiet (fail)
  go_wp2_with fail
  go_ret
  exact ⟨by rw [HD.out]; rfl, _, rfl⟩
def okIsDoor (n : Int) (xs : List Int) (i j : Int) : Bool := pairB n xs i j
def valIsDoor (n : Int) (xs : List Int) (i j : Int) : Bool := pairB n xs i j && doorB xs i j
theorem pairB_yes {n : Int} {xs : List Int} {i j : Int} (h : pairB n xs i j = true) : ∃ n' i' j' : Nat, n = n' ∧ i = i' ∧ j = j' ∧ labB n' xs = true ∧ i' < Pr.cnt n' ∧ j' < Pr.cnt n' ∧ nearB (pt n' i') (pt n' j') = true := by
  simp only [pairB, Bool.and_eq_true] at h
  obtain ⟨hL, hi, hj, hN⟩ := h
  obtain ⟨n, rfl⟩ := labB_nat hL
  obtain ⟨i, rfl, hi'⟩ := ptB_yes hi
  obtain ⟨j, rfl, hj'⟩ := ptB_yes hj
  exact ⟨n, i, j, rfl, rfl, rfl, hL, hi', hj', by simpa using hN⟩
set_option maxHeartbeats 400000 in
theorem specIsDoor (n : Int) (xs : List Int) (i j : Int) (a : Option Addr) (b len cap : Nat) (w : World) (hn : xs.length = len) (h : Rd w a b 0 xs) (hb0 : len = 0 ∨ b < w.heap.size) :
    Calls Try.prog 27 #[.int .i64 n, .slice a len cap, .int .i64 i, .int .i64 j] w fun e w' => e = .returned (.tuple #[.bool (valIsDoor n xs i j), .bool (okIsDoor n xs i j)]) ∧ Below w.heap.size w w' := by
  have HP := Lib.hid (doPair_any n xs i j a b len cap w hn h)
  cases hp : pairB n xs i j
  · have H1 : Hid (valIsDoor n xs i j = false ∧ okIsDoor n xs i j = false) := Lib.hid (by simp [valIsDoor, okIsDoor, hp])
    rw [hp] at HP
    clear hp h
    rw [H1.out.1, H1.out.2]
    go_enter Try.func27, Try.ntmps27
    go_wp2_with fail
    refine HP.out.mono ?_
    rintro e w1 ⟨rfl, hb1⟩
    go_wp2_with fail
    go_ret2
    exact ⟨rfl, hb1⟩
  · have H1 : Hid (valIsDoor n xs i j = doorB xs i j ∧ okIsDoor n xs i j = true) := Lib.hid (by simp [valIsDoor, okIsDoor, hp])
    rw [hp] at HP
    obtain ⟨n, i, j, rfl, rfl, rfl, hL, hi, hj, -⟩ := pairB_yes hp
    obtain ⟨h1, h2, hl, hA⟩ := labB_yes hL
    have HD := Lib.hid (fun w' (hb : Below w.heap.size w w') => doDoor_any xs i j a b len cap w' hn (h.later hn hb0 hb) hA (by omega) (by omega))
    clear hp h hL hl hA hn
    rw [H1.out.1, H1.out.2]
    go_enter Try.func27, Try.ntmps27
    go_wp2_with fail
    refine HP.out.mono ?_
    rintro e w1 ⟨rfl, hb1⟩
    go_wp2_with fail
    refine (HD.out _ hb1).mono ?_
    rintro e w2 ⟨rfl, m, rfl⟩
    go_wp2_with fail
    go_ret2
    exact ⟨rfl, below_drewN hb1 _⟩
end Go.Proofs.Ytjbdhgomcchoaaa
