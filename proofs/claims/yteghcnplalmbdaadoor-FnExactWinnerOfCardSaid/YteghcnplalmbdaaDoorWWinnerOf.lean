import Derived.Test.YteghcnplalmbdaaDoorJ1
namespace Go.Proofs.YteghcnplalmbdaaDoor
open Go.RowKit
set_option maxRecDepth 4000
def OutWinnerOf (w : World) (x : Int) (ok : Bool) (e : Ending) (w' : World) : Prop := e = .returned (.tuple #[.int .i64 x, .bool ok]) ∧ Below w.heap.size w w'
set_option maxHeartbeats 800000 in
theorem lawOf_WinnerOf (n m : Int) (a : Option Addr) (len cap : Nat) (zs : List Int) (w : World) (hrow : IsRow w a len cap zs) (x : Int) (ok : Bool)
    (hs : ∀ a' b' cap' w', len ≤ 1048576 → Rd w' a' b' 0 (zs.take len) → (len = 0 ∨ b' < w'.heap.size) → Calls Tryd.prog 12 #[.int .i64 n, .int .i64 m, .slice a' len cap'] w' (OutWinnerOf w' x ok))
    (hi : ∀ a' b' cap' w', Below w.heap.size w w' → len ≤ 1048576 → Rd w' a' b' 0 (zs.take len) → (len = 0 ∨ b' < w'.heap.size) → Calls Tryd.prog 13 #[.int .i64 n, .int .i64 m, .slice a' len cap'] w' (OutWinnerOf w' x ok)) :
    Calls Tryd.prog 5 #[.int .i64 n, .int .i64 m, .slice a len cap] w fun e w' => e = .returned (.bool true) ∧ Below w.heap.size w w' := by
  obtain ⟨hlen, b, off, hr, hbb⟩ := isRow_rd hrow
  generalize zs.take len = xs at hlen hr hs hi
  have hm := hr.1
  unfold maxLen at hm
  rw [hlen] at hm
  have HR := Lib.hid hr
  have HL := Lib.hid hlen
  have HS := Lib.hid hs
  have HI := Lib.hid hi
  clear hr hrow hlen hs hi
  by_cases hbig : (1048576 : Int) < (len : Int)
  · go_enter Tryd.func5, Tryd.ntmps5
    go_wp2_with fail
    go_ret
    exact ⟨rfl, Below.refl _ _⟩
  · have hsm : len ≤ 1048576 := by omega
    have hok : (ok != ok) = false := by simp
    have hat : (x != x) = false := by simp
    go_enter Tryd.func5, Tryd.ntmps5
    go_wp2_with fail
    refine (toIntS_any xs a b off len cap w HL.out HR.out hbb hsm).mono ?_
    rintro e w1 ⟨v1, rfl, ho1, hb1⟩
    obtain ⟨-, a1, c1, b1, rfl, hx1, hr1⟩ := own_shape ho1
    have hbl1 : len = 0 ∨ b1 < w1.heap.size := by
      rcases hx1 with h | h
      · left
        rcases Nat.eq_zero_or_pos xs.length with h0 | h0
        · rw [← HL.out]; exact h0
        · have := (hr1.2 0 h0).1; rw [h] at this; cases this
      · exact .inr (own_lt ho1 b1 (by rw [h]; rfl))
    go_wp2_with fail
    rw [HL.out]
    refine (HS.out a1 b1 c1 w1 hsm hr1 hbl1).mono ?_
    rintro e w2 ⟨rfl, hb2⟩
    have hB2 := bnext hb1 hb2
    have hR2 : Rd w2 a b off xs := by
      refine ⟨HR.out.1, fun j hj => ⟨(HR.out.2 j hj).1, ?_⟩⟩
      rcases hbb with h | h
      · rw [HL.out, h] at hj; exact absurd hj (Nat.not_lt_zero _)
      · exact (hB2.cell h).trans (HR.out.2 j hj).2
    have hbb2 : len = 0 ∨ b < w2.heap.size := by
      rcases hbb with h | h
      · exact .inl h
      · exact .inr (by have := hB2.size; omega)
    have HR2 := Lib.hid hR2
    clear hR2 ho1 hr1 hb1 hb2 hbl1
    go_wp2_with fail
    refine (toIntS_any xs a b off len cap w2 HL.out HR2.out hbb2 hsm).mono ?_
    rintro e w3 ⟨v3, rfl, ho3, hb3⟩
    obtain ⟨-, a3, c3, b3, rfl, hx3, hr3⟩ := own_shape ho3
    have hbl3 : len = 0 ∨ b3 < w3.heap.size := by
      rcases hx3 with h | h
      · left
        rcases Nat.eq_zero_or_pos xs.length with h0 | h0
        · rw [← HL.out]; exact h0
        · have := (hr3.2 0 h0).1; rw [h] at this; cases this
      · exact .inr (own_lt ho3 b3 (by rw [h]; rfl))
    go_wp2_with fail
    rw [HL.out]
    refine (HI.out a3 b3 c3 w3 (bnext hB2 hb3) hsm hr3 hbl3).mono ?_
    rintro e w4 ⟨rfl, hb4⟩
    have hB4 := bnext (bnext hB2 hb3) hb4
    have ho4 := own_now ho3 hb4
    obtain ⟨-, a3', c3', b3', hv, hx3', hr4⟩ := own_shape ho4
    simp only [Value.slice.injEq] at hv
    obtain ⟨rfl, -, rfl⟩ := hv
    have hR4 : Rd w4 a b off xs := by
      refine ⟨HR.out.1, fun j hj => ⟨(HR.out.2 j hj).1, ?_⟩⟩
      rcases hbb with h | h
      · rw [HL.out, h] at hj; exact absurd hj (Nat.not_lt_zero _)
      · exact (hB4.cell h).trans (HR.out.2 j hj).2
    have hbb4 : len = 0 ∨ b < w4.heap.size := by
      rcases hbb with h | h
      · exact .inl h
      · exact .inr (by have := hB4.size; omega)
    have HR4 := Lib.hid hR4
    clear hR4 ho3 hr3 hb3 hb4 hbl3
    go_wp2_with fail
    refine (toIntS_any xs a b off len cap w4 HL.out HR4.out hbb4 hsm).mono ?_
    rintro e w5 ⟨v5, rfl, ho5, hb5⟩
    obtain ⟨-, a5, c5, b5, rfl, hx5, hr5⟩ := own_shape ho5
    have hr45 : Rd w5 a3 b3' 0 xs := hr4.below hb5 (by
      rcases hx3' with h | h
      · exact .inl h
      · exact .inr (own_lt ho4 b3' (by rw [h]; rfl)))
    have hB5 := bnext hB4 hb5
    go_wp2_with fail
    refine (eqIntS_same xs a3 a5 b3' 0 b5 0 _ _ c3 c5 w5 HL.out rfl hr45 hr5).mono ?_
    rintro e w6 ⟨rfl, hs6⟩
    have hB6 := below_same hB5 hs6
    go_wp2_with fail
    go_ret
    exact ⟨rfl, hB6⟩
set_option maxHeartbeats 800000 in
theorem specWinnerOf_no (n m : Int) (xs : List Int) (hF : fullBd n m xs = false) (a : Option Addr) (b len cap : Nat) (w : World) (hn : xs.length = len) (h : Rd w a b 0 xs) (_ : len = 0 ∨ b < w.heap.size) :
    Calls Tryd.prog 12 #[.int .i64 n, .int .i64 m, .slice a len cap] w (OutWinnerOf w 0 false) := by
  have HG := Lib.hid (hxFull_any n m xs a b 0 len cap w hn h)
  rw [hF] at HG
  clear h hn hF
  go_enter Tryd.func12, Tryd.ntmps12
  go_wp2_with fail
  refine HG.out.mono ?_
  rintro e w1 ⟨rfl, rfl⟩
  go_wp2_with fail
  go_ret2
  exact ⟨rfl, Below.refl _ _⟩
set_option maxHeartbeats 800000 in
theorem implWinnerOf_no (n m : Int) (xs : List Int) (hF : fullBd n m xs = false) (a : Option Addr) (b len cap : Nat) (w : World) (hn : xs.length = len) (hsm : len ≤ 1048576) (h : Rd w a b 0 xs) (hb0 : len = 0 ∨ b < w.heap.size) :
    Calls Tryd.prog 13 #[.int .i64 n, .int .i64 m, .slice a len cap] w (OutWinnerOf w 0 false) := by
  have HG := Lib.hid (fullBoardOf_no n m xs a b len cap w hn hsm h hb0 hF)
  clear h hn hb0 hF
  go_enter Tryd.func13, Tryd.ntmps13
  go_wp2_with fail
  refine HG.out.mono ?_
  rintro e w1 ⟨rfl, hb1⟩
  go_wp2_with (first
    | (with_reducible refine alloc_hb rfl rfl ?_)
    | ((with_reducible refine store_hb rfl _ _ rfl w1.heap.size zeroH zeroH ?_ ?_ (heap_alloc_new w1 _) zeroH_size zeroH_size zeroH_one w1.heap.size (Nat.le_refl _) ?_); exact rfl; exact rfl; intro w2 hg2 hb2; have hB2 := (balloc hb1 (.cells zeroH 38)).trans (hb2.mono hb1.size)))
  go_ret2
  exact ⟨rfl, hB2⟩
set_option maxHeartbeats 800000 in
theorem specWinnerOf_yes (n m s : Nat) (xs : List Int) (h1 : 1 ≤ n) (h2 : 1 ≤ m) (hnm : n * m = s) (h30 : s ≤ 30) (hl : xs.length = s) (hA : allB 0 2 xs = true) (hF : fullBd n m xs = true) (a : Option Addr) (b len cap : Nat) (w : World) (hn : xs.length = len) (h : Rd w a b 0 xs) (hb0 : len = 0 ∨ b < w.heap.size) :
    Calls Tryd.prog 12 #[.int .i64 n, .int .i64 m, .slice a len cap] w (OutWinnerOf w (if needK n m s xs 1 == 0 then 1 else 2) true) := by
  have HG := Lib.hid (hxFull_any n m xs a b 0 len cap w hn h)
  have HN := Lib.hid (hxNeed_any n m s xs 1 (.inl rfl) h1 h2 hnm h30 hl hA a b len cap w hn h hb0)
  rw [hF] at HG
  clear h hn hb0 hF hnm hA hl
  generalize needK n m s xs 1 = k at *
  by_cases hk : k = 0
  · have HK : Hid ((k == 0) = true) := Lib.hid (by simpa using hk)
    have hk' : ((k : Int) == 0) = true := by simpa using hk
    rw [HK.out]
    clear hk
    go_enter Tryd.func12, Tryd.ntmps12
    go_wp2_with fail
    refine HG.out.mono ?_
    rintro e w1 ⟨rfl, rfl⟩
    go_wp2_with fail
    refine HN.out.mono ?_
    rintro e w1 ⟨rfl, hb1⟩
    go_wp2_with fail
    go_ret2
    exact ⟨rfl, hb1⟩
  · have HK : Hid ((k == 0) = false) := Lib.hid (by simpa using hk)
    have hk' : ((k : Int) == 0) = false := by simpa using hk
    rw [HK.out]
    clear hk
    go_enter Tryd.func12, Tryd.ntmps12
    go_wp2_with fail
    refine HG.out.mono ?_
    rintro e w1 ⟨rfl, rfl⟩
    go_wp2_with fail
    refine HN.out.mono ?_
    rintro e w1 ⟨rfl, hb1⟩
    go_wp2_with fail
    go_ret2
    exact ⟨rfl, hb1⟩
set_option maxHeartbeats 800000 in
theorem implWinnerOf_yes (n m s : Nat) (xs : List Int) (h1 : 1 ≤ n) (h2 : 1 ≤ m) (hnm : n * m = s) (h30 : s ≤ 30) (hl : xs.length = s) (hA : allB 0 2 xs = true) (hA1 : allB 1 2 xs = true) (a : Option Addr) (b len cap : Nat) (w : World) (hn : xs.length = len) (h : Rd w a b 0 xs) (hb0 : len = 0 ∨ b < w.heap.size) (hv : HxV w) :
    Calls Tryd.prog 13 #[.int .i64 n, .int .i64 m, .slice a len cap] w (OutWinnerOf w (if needK n m s xs 1 == 0 then 1 else 2) true) := by
  have HG := Lib.hid (fullBoardOf_yes n m s xs a b len cap w hn h hb0 h1 h2 hnm h30 (by omega) hA1)
  have hsz := hbL_size n m xs (by omega)
  have hone := hbL_one n m xs
  have HV := Lib.hid hv
  have HS := Lib.hid (fun w hv => winner_any n m s xs h1 h2 hnm h30 hl hA w hv)
  clear h hn hb0 hnm hA hA1 hl hv
  generalize (hbL n m xs).toArray = bd at *
  generalize (if (needK n m s xs 1 == 0) = true then (1 : Int) else 2) = k at *
  go_enter Tryd.func13, Tryd.ntmps13
  go_wp2_with fail
  refine HG.out.mono ?_
  rintro e w1 ⟨rfl, hb1⟩
  go_wp2_with (first
    | (with_reducible refine alloc_hb rfl rfl ?_)
    | ((with_reducible refine store_hb rfl _ _ rfl w1.heap.size bd zeroH ?_ ?_ (heap_alloc_new w1 _) zeroH_size hsz hone w1.heap.size (Nat.le_refl _) ?_); exact rfl; exact rfl; intro w2 hg2 hb2; have hB2 := (balloc hb1 (.cells zeroH 38)).trans (hb2.mono hb1.size))
    | ((with_reducible refine load_blk blkHex ?_ _ rfl w1.heap.size ?_ bd hg2 hsz ?_); exact rfl; exact rfl; simp only [Act.put, List.setIfInBounds_toArray, List.set_cons_zero, List.set_cons_succ]))
  refine (HS.out _ (hxv_later HV.out hB2)).mono ?_
  rintro e w3 ⟨rfl, hb3⟩
  have hB3 := bnext hB2 hb3
  go_wp2_with fail
  go_ret2
  exact ⟨rfl, hB3⟩
theorem law_WinnerOf (n : Int) (m : Int) (a : Option Addr) (len cap : Nat) (zs : List Int) (w : World) (_ : (Lit.int .i64 n).wf = true) (_ : (Lit.int .i64 m).wf = true) (hrow : IsRow w a len cap zs) (hv : HxV w) :
    Calls Tryd.prog 5 #[.int .i64 n, .int .i64 m, .slice a len cap] w fun e w' => e = .returned (.bool true) ∧ Below w.heap.size w w' := by
  cases hF : fullBd n m (zs.take len)
  · exact lawOf_WinnerOf n m a len cap zs w hrow 0 false (fun a' b' cap' w' _ hr hb => specWinnerOf_no n m _ hF a' b' len cap' w' (isRow_rd hrow).1 hr hb) (fun a' b' cap' w' _ hsm hr hb => implWinnerOf_no n m _ hF a' b' len cap' w' (isRow_rd hrow).1 hsm hr hb)
  · have hF' := hF
    simp only [fullBd, Bool.and_eq_true] at hF'
    obtain ⟨n, m, s, rfl, rfl, hnm, h30, h1, h2, -, hl, hA⟩ := boardB_yes' hF'.1
    exact lawOf_WinnerOf n m a len cap zs w hrow _ _ (fun a' b' cap' w' _ hr hb => specWinnerOf_yes n m s _ h1 h2 hnm h30 hl hA hF a' b' len cap' w' (isRow_rd hrow).1 hr hb) (fun a' b' cap' w' hbl hsm hr hb => implWinnerOf_yes n m s _ h1 h2 hnm h30 hl hA hF'.2 a' b' len cap' w' (isRow_rd hrow).1 hr hb (hxv_later hv hbl))
end Go.Proofs.YteghcnplalmbdaaDoor
