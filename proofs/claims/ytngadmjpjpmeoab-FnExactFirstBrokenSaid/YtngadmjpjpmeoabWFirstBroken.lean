import Derived.Test.YtngadmjpjpmeoabBrk
namespace Go.Proofs.Ytngadmjpjpmeoab
open Go.RowKit
theorem ret2ib {a b : Int} {c d : Bool} (h : a = b) (h' : c = d) : Ending.returned (.tuple #[.int .i64 a, .bool c]) = .returned (.tuple #[.int .i64 b, .bool d]) := by rw [h, h']
def OutFirstBroken (w : World) (x : Int) (ok : Bool) (e : Ending) (w' : World) : Prop := e = .returned (.tuple #[.int .i64 x, .bool ok]) ∧ Below w.heap.size w w'
set_option maxHeartbeats 800000 in
theorem lawOf_FirstBroken (n : Int) (a : Option Addr) (len cap : Nat) (zs : List Int) (w : World) (hrow : IsRow w a len cap zs) (x : Int) (ok : Bool)
    (hs : ∀ a' b' cap' w', len ≤ 1048576 → Rd w' a' b' 0 (zs.take len) → (len = 0 ∨ b' < w'.heap.size) → Calls Try.prog 12 #[.int .i64 n, .slice a' len cap'] w' (OutFirstBroken w' x ok))
    (hi : ∀ a' b' cap' w', len ≤ 1048576 → Rd w' a' b' 0 (zs.take len) → (len = 0 ∨ b' < w'.heap.size) → Calls Try.prog 13 #[.int .i64 n, .slice a' len cap'] w' (OutFirstBroken w' x ok)) :
    Calls Try.prog 4 #[.int .i64 n, .slice a len cap] w fun e w' => e = .returned (.bool true) ∧ Below w.heap.size w w' := by
  obtain ⟨hlen, b, off, hr, hbb⟩ := isRow_rd hrow
  generalize zs.take len = xs at hlen hr hs hi
  have hm := hr.1
  unfold maxLen at hm
  rw [hlen] at hm
  have HR := Lib.hid hr
  have HL := Lib.hid hlen
  have HS := Lib.hid hs
  have HI := Lib.hid hi
  clear hr hrow hlen hs hi
  by_cases hbig : (1048576 : Int) < (len : Int)
  · go_enter Try.func4, Try.ntmps4
    go_wp2_with fail
    go_ret
    exact ⟨rfl, Below.refl _ _⟩
  · have hsm : len ≤ 1048576 := by omega
    have hok : (ok != ok) = false := by simp
    have hat : (x != x) = false := by simp
    go_enter Try.func4, Try.ntmps4
    go_wp2_with fail
    refine (toIntS_any xs a b off len cap w HL.out HR.out hbb hsm).mono ?_
    rintro e w1 ⟨v1, rfl, ho1, hb1⟩
    obtain ⟨-, a1, c1, b1, rfl, hx1, hr1⟩ := own_shape ho1
    have hbl1 : len = 0 ∨ b1 < w1.heap.size := by
      rcases hx1 with h | h
      · left
        rcases Nat.eq_zero_or_pos xs.length with h0 | h0
        · rw [← HL.out]; exact h0
        · have := (hr1.2 0 h0).1; rw [h] at this; cases this
      · exact .inr (own_lt ho1 b1 (by rw [h]; rfl))
    go_wp2_with fail
    rw [HL.out]
    refine (HS.out a1 b1 c1 w1 hsm hr1 hbl1).mono ?_
    rintro e w2 ⟨rfl, hb2⟩
    have hB2 := bnext hb1 hb2
    have hR2 : Rd w2 a b off xs := by
      refine ⟨HR.out.1, fun j hj => ⟨(HR.out.2 j hj).1, ?_⟩⟩
      rcases hbb with h | h
      · rw [HL.out, h] at hj; exact absurd hj (Nat.not_lt_zero _)
      · exact (hB2.cell h).trans (HR.out.2 j hj).2
    have hbb2 : len = 0 ∨ b < w2.heap.size := by
      rcases hbb with h | h
      · exact .inl h
      · exact .inr (by have := hB2.size; omega)
    have HR2 := Lib.hid hR2
    clear hR2 ho1 hr1 hb1 hb2 hbl1
    go_wp2_with fail
    refine (toIntS_any xs a b off len cap w2 HL.out HR2.out hbb2 hsm).mono ?_
    rintro e w3 ⟨v3, rfl, ho3, hb3⟩
    obtain ⟨-, a3, c3, b3, rfl, hx3, hr3⟩ := own_shape ho3
    have hbl3 : len = 0 ∨ b3 < w3.heap.size := by
      rcases hx3 with h | h
      · left
        rcases Nat.eq_zero_or_pos xs.length with h0 | h0
        · rw [← HL.out]; exact h0
        · have := (hr3.2 0 h0).1; rw [h] at this; cases this
      · exact .inr (own_lt ho3 b3 (by rw [h]; rfl))
    go_wp2_with fail
    rw [HL.out]
    refine (HI.out a3 b3 c3 w3 hsm hr3 hbl3).mono ?_
    rintro e w4 ⟨rfl, hb4⟩
    have hB4 := bnext (bnext hB2 hb3) hb4
    have ho4 := own_now ho3 hb4
    obtain ⟨-, a3', c3', b3', hv, hx3', hr4⟩ := own_shape ho4
    simp only [Value.slice.injEq] at hv
    obtain ⟨rfl, -, rfl⟩ := hv
    have hR4 : Rd w4 a b off xs := by
      refine ⟨HR.out.1, fun j hj => ⟨(HR.out.2 j hj).1, ?_⟩⟩
      rcases hbb with h | h
      · rw [HL.out, h] at hj; exact absurd hj (Nat.not_lt_zero _)
      · exact (hB4.cell h).trans (HR.out.2 j hj).2
    have hbb4 : len = 0 ∨ b < w4.heap.size := by
      rcases hbb with h | h
      · exact .inl h
      · exact .inr (by have := hB4.size; omega)
    have HR4 := Lib.hid hR4
    clear hR4 ho3 hr3 hb3 hb4 hbl3
    go_wp2_with fail
    refine (toIntS_any xs a b off len cap w4 HL.out HR4.out hbb4 hsm).mono ?_
    rintro e w5 ⟨v5, rfl, ho5, hb5⟩
    obtain ⟨-, a5, c5, b5, rfl, hx5, hr5⟩ := own_shape ho5
    have hr45 : Rd w5 a3 b3' 0 xs := hr4.below hb5 (by
      rcases hx3' with h | h
      · exact .inl h
      · exact .inr (own_lt ho4 b3' (by rw [h]; rfl)))
    have hB5 := bnext hB4 hb5
    go_wp2_with fail
    refine (eqIntS_same xs a3 a5 b3' 0 b5 0 _ _ c3 c5 w5 HL.out rfl hr45 hr5).mono ?_
    rintro e w6 ⟨rfl, hs6⟩
    have hB6 := below_same hB5 hs6
    go_wp2_with fail
    go_ret
    exact ⟨rfl, hB6⟩
def valFirstBroken (n : Int) (xs : List Int) : Int := if labB n xs then brOut (fbk n.toNat xs) else 0
def okFirstBroken (n : Int) (xs : List Int) : Bool := if labB n xs then (fbk n.toNat xs).isSome else false
set_option maxHeartbeats 800000 in
theorem specFirstBroken (n : Int) (xs : List Int) (a : Option Addr) (b len cap : Nat) (w : World) (hn : xs.length = len) (h : Rd w a b 0 xs) (hb0 : len = 0 ∨ b < w.heap.size) :
    Calls Try.prog 12 #[.int .i64 n, .slice a len cap] w (OutFirstBroken w (valFirstBroken n xs) (okFirstBroken n xs)) := by
  have hml := meLabels_any n xs a b 0 len cap w hn h
  cases hL : labB n xs
  · have hv : valFirstBroken n xs = 0 := by simp [valFirstBroken, hL]
    have ho : okFirstBroken n xs = false := by simp [okFirstBroken, hL]
    rw [hv, ho]
    rw [hL] at hml
    have HM := Lib.hid hml
    clear h hn hml hL hv ho
    go_enter Try.func12, Try.ntmps12
    go_wp2_with fail
    refine HM.out.mono ?_
    rintro e w' ⟨rfl, rfl⟩
    go_wp2_with fail
    go_ret2
    exact ⟨rfl, Below.refl _ _⟩
  · have hside : 1 ≤ n ∧ n ≤ 8 := by
      simp only [labB, decide_eq_true_eq] at hL
      exact ⟨hL.1, hL.2.1⟩
    obtain ⟨n, rfl⟩ := Int.eq_ofNat_of_zero_le (show 0 ≤ n by omega)
    have hv : valFirstBroken n xs = brOut (fbk n xs) := by simp [valFirstBroken, hL]
    rw [hv]
    rw [hL] at hml
    have HM := Lib.hid hml
    have HB := Lib.hid (fun w' hr hb => meBroken_any n xs a b 0 len cap w' hn hr hb hL)
    have HR := Lib.hid h
    have HN := Lib.hid hn
    have hok : okFirstBroken n xs = (fbk n xs).isSome := by simp [okFirstBroken, hL]
    rw [hok]
    clear h hn hml hv hok hL hside
    go_enter Try.func12, Try.ntmps12
    go_wp2_with fail
    refine HM.out.mono ?_
    rintro e w' ⟨rfl, rfl⟩
    go_wp2_with fail
    refine (HB.out _ HR.out hb0).mono ?_
    rintro e w2 ⟨rfl, hb2⟩
    have hR2 : Rd w2 a b 0 xs := by
      refine ⟨HR.out.1, fun j hj => ⟨(HR.out.2 j hj).1, ?_⟩⟩
      rcases hb0 with h' | h'
      · rw [HN.out, h'] at hj; exact absurd hj (Nat.not_lt_zero _)
      · exact (hb2.cell h').trans (HR.out.2 j hj).2
    have hb2' : len = 0 ∨ b < w2.heap.size := by
      rcases hb0 with h' | h'
      · exact .inl h'
      · exact .inr (by have := hb2.size; omega)
    have HR2 := Lib.hid hR2
    clear hR2
    cases hF : fbk n xs with
    | none =>
      have hi : brInt (none : Option Nat) = -1 := rfl
      rw [hi]
      have HF := Lib.hid hF
      clear hF hi
      go_wp2_with fail
      go_ret2
      exact ⟨ret2ib (by rw [HF.out]; rfl) (by rw [HF.out]; rfl), hb2⟩
    | some k =>
      have hi : brInt (some k) = (k : Int) := rfl
      rw [hi]
      have HF := Lib.hid hF
      have HI := Lib.hid hi
      clear hF hi
      go_wp2_with fail
      refine (HB.out _ HR2.out hb2').mono ?_
      rintro e w3 ⟨rfl, hb3⟩
      rw [HF.out, HI.out]
      go_wp2_with fail
      go_ret2
      exact ⟨ret2ib (by rw [HF.out]; rfl) (by rw [HF.out]; rfl), bnext hb2 hb3⟩
set_option maxHeartbeats 800000 in
theorem implFirstBroken (n : Int) (xs : List Int) (a : Option Addr) (b len cap : Nat) (w : World) (hn : xs.length = len) (hsm : len ≤ 1048576) (h : Rd w a b 0 xs) (hb0 : len = 0 ∨ b < w.heap.size) :
    Calls Try.prog 13 #[.int .i64 n, .slice a len cap] w (OutFirstBroken w (valFirstBroken n xs) (okFirstBroken n xs)) := by
  have hlo := labelledOf_any n xs a b len cap w hn hsm h hb0
  cases hL : labB n xs
  · have hv : valFirstBroken n xs = 0 := by simp [valFirstBroken, hL]
    have ho : okFirstBroken n xs = false := by simp [okFirstBroken, hL]
    rw [hv, ho]
    rw [hL] at hlo
    simp only [Bool.false_eq_true, if_false] at hlo
    have HLO := Lib.hid hlo
    clear h hn hlo hL hv ho
    go_enter Try.func13, Try.ntmps13
    go_wp2_with fail
    refine (HLO.out).mono ?_
    rintro e w2 ⟨rfl, hb2⟩
    go_wp2_with (first | (with_reducible refine alloc_lab rfl rfl ?_) | ((with_reducible refine store_lab rfl _ _ rfl w2.heap.size zeroA zeroA ?_ ?_ ?_ zeroA_size zeroA_size zeroA_one w2.heap.size (Nat.le_refl _) ?_); exact rfl; exact rfl; exact heap_alloc_new _ _; intro w3 hg3 hb3; have hB3 := bnext hb2 ((Below.alloc (Below.refl w2.heap.size w2) (Nat.le_refl _) (.cells zeroA 40)).trans hb3)))
    go_ret2
    exact ⟨rfl, hB3⟩
  · have hside : 1 ≤ n ∧ n ≤ 8 := by
      simp only [labB, decide_eq_true_eq] at hL
      exact ⟨hL.1, hL.2.1⟩
    obtain ⟨n, rfl⟩ := Int.eq_ofNat_of_zero_le (show 0 ≤ n by omega)
    have hv : valFirstBroken n xs = brOut (fbk n xs) := by simp [valFirstBroken, hL]
    have ho : okFirstBroken n xs = (fbk n xs).isSome := by simp [okFirstBroken, hL]
    rw [hv, ho]
    rw [hL] at hlo
    simp only [if_true, Int.toNat_natCast] at hlo
    have HLO := Lib.hid hlo
    have HB := Lib.hid (fun w' => firstBroken_any n xs w' hL)
    have hsz := labL_size n xs (by obtain ⟨_, _, hl, _⟩ := labB_yes hL; have := (Pr.cnt_le n (by omega)).1; omega)
    clear h hn hlo hL hv ho hside
    go_enter Try.func13, Try.ntmps13
    go_wp2_with fail
    refine (HLO.out).mono ?_
    rintro e w2 ⟨rfl, hb2⟩
    go_wp2_with (first | (with_reducible refine alloc_lab rfl rfl ?_) | ((with_reducible refine store_lab rfl _ _ rfl w2.heap.size (labL n xs).toArray zeroA ?_ ?_ ?_ zeroA_size hsz (labL_one _ _) w2.heap.size (Nat.le_refl _) ?_); exact rfl; exact rfl; exact heap_alloc_new _ _; intro w3 hg3 hb3; have hB3 := bnext hb2 ((Below.alloc (Below.refl w2.heap.size w2) (Nat.le_refl _) (.cells zeroA 40)).trans hb3)) | ((with_reducible refine load_lab rfl _ rfl w2.heap.size ?_ (labL n xs).toArray hg3 hsz ?_); exact rfl))
    refine (HB.out _).mono ?_
    rintro e w4 ⟨rfl, hb4⟩
    have hB4 := bnext hB3 hb4
    go_wp2_with fail
    go_ret2
    exact ⟨rfl, hB4⟩
theorem law_FirstBroken (n : Int) (a : Option Addr) (len cap : Nat) (zs : List Int) (w : World) (_ : (Lit.int .i64 n).wf = true) (hrow : IsRow w a len cap zs) :
    Calls Try.prog 4 #[.int .i64 n, .slice a len cap] w fun e w' => e = .returned (.bool true) ∧ Below w.heap.size w w' :=
  lawOf_FirstBroken n a len cap zs w hrow _ _ (fun a' b' cap' w' _ hr hb => specFirstBroken n _ a' b' len cap' w' (isRow_rd hrow).1 hr hb) (fun a' b' cap' w' hsm hr hb => implFirstBroken n _ a' b' len cap' w' (isRow_rd hrow).1 hsm hr hb)
end Go.Proofs.Ytngadmjpjpmeoab
