import Derived.Test.YteghcnplalmbdaaDoorJ1
namespace Go.Proofs.YteghcnplalmbdaaDoor
open Go.RowKit
set_option maxRecDepth 4000
def OutNeedOf (w : World) (x : Int) (ok : Bool) (e : Ending) (w' : World) : Prop := e = .returned (.tuple #[.int .i64 x, .bool ok]) ∧ Below w.heap.size w w'
set_option maxHeartbeats 800000 in
theorem lawOf_NeedOf (n m : Int) (a : Option Addr) (len cap : Nat) (zs : List Int) (p : Int) (w : World) (hrow : IsRow w a len cap zs) (x : Int) (ok : Bool)
    (hs : ∀ a' b' cap' w', len ≤ 1048576 → Rd w' a' b' 0 (zs.take len) → (len = 0 ∨ b' < w'.heap.size) → Calls Tryd.prog 6 #[.int .i64 n, .int .i64 m, .slice a' len cap', .int .i64 p] w' (OutNeedOf w' x ok))
    (hi : ∀ a' b' cap' w', Below w.heap.size w w' → len ≤ 1048576 → Rd w' a' b' 0 (zs.take len) → (len = 0 ∨ b' < w'.heap.size) → Calls Tryd.prog 8 #[.int .i64 n, .int .i64 m, .slice a' len cap', .int .i64 p] w' (OutNeedOf w' x ok)) :
    Calls Tryd.prog 3 #[.int .i64 n, .int .i64 m, .slice a len cap, .int .i64 p] w fun e w' => e = .returned (.bool true) ∧ Below w.heap.size w w' := by
  obtain ⟨hlen, b, off, hr, hbb⟩ := isRow_rd hrow
  generalize zs.take len = xs at hlen hr hs hi
  have hm := hr.1
  unfold maxLen at hm
  rw [hlen] at hm
  have HR := Lib.hid hr
  have HL := Lib.hid hlen
  have HS := Lib.hid hs
  have HI := Lib.hid hi
  clear hr hrow hlen hs hi
  by_cases hbig : (1048576 : Int) < (len : Int)
  · go_enter Tryd.func3, Tryd.ntmps3
    go_wp2_with fail
    go_ret
    exact ⟨rfl, Below.refl _ _⟩
  · have hsm : len ≤ 1048576 := by omega
    have hok : (ok != ok) = false := by simp
    have hat : (x != x) = false := by simp
    go_enter Tryd.func3, Tryd.ntmps3
    go_wp2_with fail
    refine (toIntS_any xs a b off len cap w HL.out HR.out hbb hsm).mono ?_
    rintro e w1 ⟨v1, rfl, ho1, hb1⟩
    obtain ⟨-, a1, c1, b1, rfl, hx1, hr1⟩ := own_shape ho1
    have hbl1 : len = 0 ∨ b1 < w1.heap.size := by
      rcases hx1 with h | h
      · left
        rcases Nat.eq_zero_or_pos xs.length with h0 | h0
        · rw [← HL.out]; exact h0
        · have := (hr1.2 0 h0).1; rw [h] at this; cases this
      · exact .inr (own_lt ho1 b1 (by rw [h]; rfl))
    go_wp2_with fail
    rw [HL.out]
    refine (HS.out a1 b1 c1 w1 hsm hr1 hbl1).mono ?_
    rintro e w2 ⟨rfl, hb2⟩
    have hB2 := bnext hb1 hb2
    have hR2 : Rd w2 a b off xs := by
      refine ⟨HR.out.1, fun j hj => ⟨(HR.out.2 j hj).1, ?_⟩⟩
      rcases hbb with h | h
      · rw [HL.out, h] at hj; exact absurd hj (Nat.not_lt_zero _)
      · exact (hB2.cell h).trans (HR.out.2 j hj).2
    have hbb2 : len = 0 ∨ b < w2.heap.size := by
      rcases hbb with h | h
      · exact .inl h
      · exact .inr (by have := hB2.size; omega)
    have HR2 := Lib.hid hR2
    clear hR2 ho1 hr1 hb1 hb2 hbl1
    go_wp2_with fail
    refine (toIntS_any xs a b off len cap w2 HL.out HR2.out hbb2 hsm).mono ?_
    rintro e w3 ⟨v3, rfl, ho3, hb3⟩
    obtain ⟨-, a3, c3, b3, rfl, hx3, hr3⟩ := own_shape ho3
    have hbl3 : len = 0 ∨ b3 < w3.heap.size := by
      rcases hx3 with h | h
      · left
        rcases Nat.eq_zero_or_pos xs.length with h0 | h0
        · rw [← HL.out]; exact h0
        · have := (hr3.2 0 h0).1; rw [h] at this; cases this
      · exact .inr (own_lt ho3 b3 (by rw [h]; rfl))
    go_wp2_with fail
    rw [HL.out]
    refine (HI.out a3 b3 c3 w3 (bnext hB2 hb3) hsm hr3 hbl3).mono ?_
    rintro e w4 ⟨rfl, hb4⟩
    have hB4 := bnext (bnext hB2 hb3) hb4
    have ho4 := own_now ho3 hb4
    obtain ⟨-, a3', c3', b3', hv, hx3', hr4⟩ := own_shape ho4
    simp only [Value.slice.injEq] at hv
    obtain ⟨rfl, -, rfl⟩ := hv
    have hR4 : Rd w4 a b off xs := by
      refine ⟨HR.out.1, fun j hj => ⟨(HR.out.2 j hj).1, ?_⟩⟩
      rcases hbb with h | h
      · rw [HL.out, h] at hj; exact absurd hj (Nat.not_lt_zero _)
      · exact (hB4.cell h).trans (HR.out.2 j hj).2
    have hbb4 : len = 0 ∨ b < w4.heap.size := by
      rcases hbb with h | h
      · exact .inl h
      · exact .inr (by have := hB4.size; omega)
    have HR4 := Lib.hid hR4
    clear hR4 ho3 hr3 hb3 hb4 hbl3
    go_wp2_with fail
    refine (toIntS_any xs a b off len cap w4 HL.out HR4.out hbb4 hsm).mono ?_
    rintro e w5 ⟨v5, rfl, ho5, hb5⟩
    obtain ⟨-, a5, c5, b5, rfl, hx5, hr5⟩ := own_shape ho5
    have hr45 : Rd w5 a3 b3' 0 xs := hr4.below hb5 (by
      rcases hx3' with h | h
      · exact .inl h
      · exact .inr (own_lt ho4 b3' (by rw [h]; rfl)))
    have hB5 := bnext hB4 hb5
    go_wp2_with fail
    refine (eqIntS_same xs a3 a5 b3' 0 b5 0 _ _ c3 c5 w5 HL.out rfl hr45 hr5).mono ?_
    rintro e w6 ⟨rfl, hs6⟩
    have hB6 := below_same hB5 hs6
    go_wp2_with fail
    go_ret
    exact ⟨rfl, hB6⟩
set_option maxHeartbeats 800000 in
theorem specNeedOf_no (n m : Int) (xs : List Int) (p : Int) (hF : boardB n m xs = false ∨ (p == 1 || p == 2) = false) (a : Option Addr) (b len cap : Nat) (w : World) (hn : xs.length = len) (h : Rd w a b 0 xs) (_ : len = 0 ∨ b < w.heap.size) :
    Calls Tryd.prog 6 #[.int .i64 n, .int .i64 m, .slice a len cap, .int .i64 p] w (OutNeedOf w 0 false) := by
  have HG := Lib.hid (hxGood_any n m xs a b 0 len cap w hn h)
  have HP := Lib.hid (fun w => hxPlayer_any p w)
  clear h hn
  cases hB : boardB n m xs
  · rw [hB] at HG
    clear hF hB
    go_enter Tryd.func6, Tryd.ntmps6
    go_wp2_with fail
    refine HG.out.mono ?_
    rintro e w1 ⟨rfl, rfl⟩
    go_wp2_with fail
    go_ret2
    exact ⟨rfl, Below.refl _ _⟩
  · have hq : (p == 1 || p == 2) = false := by simpa [hB] using hF
    rw [hB] at HG
    rw [hq] at HP
    clear hF hB hq
    go_enter Tryd.func6, Tryd.ntmps6
    go_wp2_with fail
    refine HG.out.mono ?_
    rintro e w1 ⟨rfl, rfl⟩
    go_wp2_with fail
    refine (HP.out _).mono ?_
    rintro e w1 ⟨rfl, rfl⟩
    go_wp2_with fail
    go_ret2
    exact ⟨rfl, Below.refl _ _⟩
set_option maxHeartbeats 800000 in
theorem implNeedOf_no (n m : Int) (xs : List Int) (p : Int) (hF : boardB n m xs = false ∨ (p == 1 || p == 2) = false) (a : Option Addr) (b len cap : Nat) (w : World) (hn : xs.length = len) (hsm : len ≤ 1048576) (h : Rd w a b 0 xs) (hb0 : len = 0 ∨ b < w.heap.size) :
    Calls Tryd.prog 8 #[.int .i64 n, .int .i64 m, .slice a len cap, .int .i64 p] w (OutNeedOf w 0 false) := by
  cases hB : boardB n m xs
  · have HG := Lib.hid (hexBoardOf_no n m xs a b len cap w hn hsm h hb0 hB)
    clear h hn hb0 hF hB
    go_enter Tryd.func8, Tryd.ntmps8
    go_wp2_with fail
    refine HG.out.mono ?_
    rintro e w1 ⟨rfl, hb1⟩
    go_wp2_with (first
    | (with_reducible refine alloc_hb rfl rfl ?_)
    | ((with_reducible refine store_hb rfl _ _ rfl w1.heap.size zeroH zeroH ?_ ?_ (heap_alloc_new w1 _) zeroH_size zeroH_size zeroH_one w1.heap.size (Nat.le_refl _) ?_); exact rfl; exact rfl; intro w2 hg2 hb2; have hB2 := (balloc hb1 (.cells zeroH 38)).trans (hb2.mono hb1.size)))
    go_ret2
    exact ⟨rfl, hB2⟩
  · have hq : (p == 1 || p == 2) = false := by simpa [hB] using hF
    have HP := Lib.hid (fun w => isPlayer_any p w)
    rw [hq] at HP
    obtain ⟨n, m, s, rfl, rfl, hnm, h30, h1, h2, hp, hl, hA⟩ := boardB_yes' hB
    have HG := Lib.hid (hexBoardOf_yes n m s xs a b len cap w hn h hb0 h1 h2 hnm h30 (by omega) hA)
    have hsz := hbL_size n m xs (by omega)
    have hone := hbL_one n m xs
    clear h hn hb0 hF hB hq hp hnm hA
    generalize (hbL n m xs).toArray = bd at *
    go_enter Tryd.func8, Tryd.ntmps8
    go_wp2_with fail
    refine HG.out.mono ?_
    rintro e w1 ⟨rfl, hb1⟩
    go_wp2_with (first
    | (with_reducible refine alloc_hb rfl rfl ?_)
    | ((with_reducible refine store_hb rfl _ _ rfl w1.heap.size bd zeroH ?_ ?_ (heap_alloc_new w1 _) zeroH_size hsz hone w1.heap.size (Nat.le_refl _) ?_); exact rfl; exact rfl; intro w2 hg2 hb2; have hB2 := (balloc hb1 (.cells zeroH 38)).trans (hb2.mono hb1.size))
    | ((with_reducible refine load_blk blkHex ?_ _ rfl w1.heap.size ?_ bd hg2 hsz ?_); exact rfl; exact rfl; simp only [Act.put, List.setIfInBounds_toArray, List.set_cons_zero, List.set_cons_succ]))
    refine (HP.out _).mono ?_
    rintro e w3 ⟨rfl, rfl⟩
    go_wp2_with fail
    go_ret2
    exact ⟨rfl, hB2⟩
set_option maxHeartbeats 800000 in
theorem specNeedOf_yes (n m s : Nat) (xs : List Int) (p : Int) (hp : p = 1 ∨ p = 2) (h1 : 1 ≤ n) (h2 : 1 ≤ m) (hnm : n * m = s) (h30 : s ≤ 30) (hl : xs.length = s) (hA : allB 0 2 xs = true) (hG : boardB n m xs = true) (a : Option Addr) (b len cap : Nat) (w : World) (hn : xs.length = len) (h : Rd w a b 0 xs) (hb0 : len = 0 ∨ b < w.heap.size) :
    Calls Tryd.prog 6 #[.int .i64 n, .int .i64 m, .slice a len cap, .int .i64 p] w (OutNeedOf w (((if needK n m s xs p ≤ s then needK n m s xs p else 0 : Nat) : Int)) (decide (needK n m s xs p ≤ s))) := by
  have HG := Lib.hid (hxGood_any n m xs a b 0 len cap w hn h)
  have HP := Lib.hid (fun w => hxPlayer_any p w)
  have HN := Lib.hid (hxNeed_any n m s xs p hp h1 h2 hnm h30 hl hA a b len cap w hn h hb0)
  have hq : (p == 1 || p == 2) = true := by rcases hp with rfl | rfl <;> rfl
  rw [hG] at HG
  rw [hq] at HP
  have hpr : (n : Int) * (m : Int) = (s : Int) := by rw [← hnm]; exact (Int.natCast_mul n m).symm
  have hpw : wrap64 ((n : Int) * (m : Int)) = (s : Int) := by rw [hpr, IntWalk.wrap64_in _ ⟨by omega, by omega⟩]
  have HW := Lib.hid hpr
  clear h hn hb0 hG hq hp hnm hA hl hpr
  generalize needK n m s xs p = k at *
  by_cases hk : k ≤ s
  · have HD : Hid (decide (k ≤ s) = true) := Lib.hid (by simpa using hk)
    have hlt : ¬ ((k : Int) > (s : Int)) := by omega
    have HE : Hid ((if k ≤ s then k else 0 : Nat) = k) := Lib.hid (if_pos hk)
    rw [HD.out, HE.out]
    clear hk
    go_enter Tryd.func6, Tryd.ntmps6
    go_wp2_with fail
    refine HG.out.mono ?_
    rintro e w1 ⟨rfl, rfl⟩
    go_wp2_with fail
    refine (HP.out _).mono ?_
    rintro e w1 ⟨rfl, rfl⟩
    go_wp2_with fail
    refine HN.out.mono ?_
    rintro e w1 ⟨rfl, hb1⟩
    go_wp2_with fail
    go_ret2
    exact ⟨rfl, hb1⟩
  · have HD : Hid (decide (k ≤ s) = false) := Lib.hid (by simpa using hk)
    have hlt : (k : Int) > (s : Int) := by omega
    have HE : Hid ((if k ≤ s then k else 0 : Nat) = 0) := Lib.hid (if_neg hk)
    rw [HD.out, HE.out]
    clear hk
    go_enter Tryd.func6, Tryd.ntmps6
    go_wp2_with fail
    refine HG.out.mono ?_
    rintro e w1 ⟨rfl, rfl⟩
    go_wp2_with fail
    refine (HP.out _).mono ?_
    rintro e w1 ⟨rfl, rfl⟩
    go_wp2_with fail
    refine HN.out.mono ?_
    rintro e w1 ⟨rfl, hb1⟩
    go_wp2_with fail
    go_ret2
    exact ⟨rfl, hb1⟩
set_option maxHeartbeats 800000 in
theorem implNeedOf_yes (n m s : Nat) (xs : List Int) (p : Int) (hp : p = 1 ∨ p = 2) (h1 : 1 ≤ n) (h2 : 1 ≤ m) (hnm : n * m = s) (h30 : s ≤ 30) (hl : xs.length = s) (hA : allB 0 2 xs = true) (a : Option Addr) (b len cap : Nat) (w : World) (hn : xs.length = len) (h : Rd w a b 0 xs) (hb0 : len = 0 ∨ b < w.heap.size) (hv : HxV w) :
    Calls Tryd.prog 8 #[.int .i64 n, .int .i64 m, .slice a len cap, .int .i64 p] w (OutNeedOf w (((if needK n m s xs p ≤ s then needK n m s xs p else 0 : Nat) : Int)) (decide (needK n m s xs p ≤ s))) := by
  have HG := Lib.hid (hexBoardOf_yes n m s xs a b len cap w hn h hb0 h1 h2 hnm h30 (by omega) hA)
  have hsz := hbL_size n m xs (by omega)
  have hone := hbL_one n m xs
  have HV := Lib.hid hv
  have HP := Lib.hid (fun w => isPlayer_any p w)
  have HS := Lib.hid (fun w => searchFor_any n m s xs p hp h1 h2 hnm h30 hl hA w)
  have HSK : Hid (∀ w v, SchOk w v n m s xs p → ∀ w', Below w.heap.size w w' → HxV w' → Calls Tryd.prog 20 #[v] w' fun e w'' => e = .returned (.tuple #[.int .i64 ((if needK n m s xs p ≤ s then needK n m s xs p else 0 : Nat) : Int), .bool (decide (needK n m s xs p ≤ s))]) ∧ Below w'.heap.size w' w'') := Lib.hid (fun w v h => h)
  have hq : (p == 1 || p == 2) = true := by rcases hp with rfl | rfl <;> rfl
  rw [hq] at HP
  clear h hn hb0 hq hp hnm hA hl hv
  generalize (hbL n m xs).toArray = bd at *
  generalize (if needK n m s xs p ≤ s then needK n m s xs p else 0 : Nat) = j at *
  generalize decide (needK n m s xs p ≤ s) = d at *
  go_enter Tryd.func8, Tryd.ntmps8
  go_wp2_with fail
  refine HG.out.mono ?_
  rintro e w1 ⟨rfl, hb1⟩
  go_wp2_with (first
    | (with_reducible refine alloc_hb rfl rfl ?_)
    | ((with_reducible refine store_hb rfl _ _ rfl w1.heap.size bd zeroH ?_ ?_ (heap_alloc_new w1 _) zeroH_size hsz hone w1.heap.size (Nat.le_refl _) ?_); exact rfl; exact rfl; intro w2 hg2 hb2; have hB2 := (balloc hb1 (.cells zeroH 38)).trans (hb2.mono hb1.size))
    | ((with_reducible refine load_blk blkHex ?_ _ rfl w1.heap.size ?_ bd hg2 hsz ?_); exact rfl; exact rfl; simp only [Act.put, List.setIfInBounds_toArray, List.set_cons_zero, List.set_cons_succ]))
  refine (HP.out _).mono ?_
  rintro e w3 ⟨rfl, rfl⟩
  go_wp2_with (first
    | (with_reducible refine alloc_hb rfl rfl ?_)
    | ((with_reducible refine store_hb rfl _ _ rfl w1.heap.size bd zeroH ?_ ?_ (heap_alloc_new w1 _) zeroH_size hsz hone w1.heap.size (Nat.le_refl _) ?_); exact rfl; exact rfl; intro w2 hg2 hb2; have hB2 := (balloc hb1 (.cells zeroH 38)).trans (hb2.mono hb1.size))
    | ((with_reducible refine load_blk blkHex ?_ _ rfl w1.heap.size ?_ bd hg2 hsz ?_); exact rfl; exact rfl; simp only [Act.put, List.setIfInBounds_toArray, List.set_cons_zero, List.set_cons_succ]))
  refine (HS.out _).mono ?_
  rintro e w3 ⟨v, rfl, hS, hb3⟩
  have hB3 := bnext hB2 hb3
  go_wp2_with fail
  refine (HSK.out _ _ hS _ (Below.refl _ _) (hxv_later HV.out hB3)).mono ?_
  rintro e w4 ⟨rfl, hb4⟩
  have hB4 := bnext hB3 hb4
  go_wp2_with fail
  go_ret2
  exact ⟨rfl, hB4⟩
theorem law_NeedOf (n : Int) (m : Int) (a : Option Addr) (len cap : Nat) (zs : List Int) (p : Int) (w : World) (_ : (Lit.int .i64 n).wf = true) (_ : (Lit.int .i64 m).wf = true) (hrow : IsRow w a len cap zs) (_ : (Lit.int .i64 p).wf = true) (hv : HxV w) :
    Calls Tryd.prog 3 #[.int .i64 n, .int .i64 m, .slice a len cap, .int .i64 p] w fun e w' => e = .returned (.bool true) ∧ Below w.heap.size w w' := by
  cases hB : boardB n m (zs.take len)
  · exact lawOf_NeedOf n m a len cap zs p w hrow 0 false (fun a' b' cap' w' _ hr hb => specNeedOf_no n m _ p (.inl hB) a' b' len cap' w' (isRow_rd hrow).1 hr hb) (fun a' b' cap' w' _ hsm hr hb => implNeedOf_no n m _ p (.inl hB) a' b' len cap' w' (isRow_rd hrow).1 hsm hr hb)
  · cases hq : (p == 1 || p == 2)
    · exact lawOf_NeedOf n m a len cap zs p w hrow 0 false (fun a' b' cap' w' _ hr hb => specNeedOf_no n m _ p (.inr hq) a' b' len cap' w' (isRow_rd hrow).1 hr hb) (fun a' b' cap' w' _ hsm hr hb => implNeedOf_no n m _ p (.inr hq) a' b' len cap' w' (isRow_rd hrow).1 hsm hr hb)
    · obtain ⟨n, m, s, rfl, rfl, hnm, h30, h1, h2, -, hl, hA⟩ := boardB_yes' hB
      have hp : p = 1 ∨ p = 2 := by simpa using hq
      exact lawOf_NeedOf n m a len cap zs p w hrow _ _ (fun a' b' cap' w' _ hr hb => specNeedOf_yes n m s _ p hp h1 h2 hnm h30 hl hA hB a' b' len cap' w' (isRow_rd hrow).1 hr hb) (fun a' b' cap' w' hbl hsm hr hb => implNeedOf_yes n m s _ p hp h1 h2 hnm h30 hl hA a' b' len cap' w' (isRow_rd hrow).1 hr hb (hxv_later hv hbl))
end Go.Proofs.YteghcnplalmbdaaDoor
