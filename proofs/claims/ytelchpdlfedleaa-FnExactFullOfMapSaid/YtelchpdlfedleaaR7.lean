import Derived.Test.YtelchpdlfedleaaR6
import Derived.Test.YtelchpdlfedleaaGz
import Derived.Test.YtelchpdlfedleaaVe
import Derived.Test.YtelchpdlfedleaaVd
namespace Go.Proofs.Ytelchpdlfedleaa
open Go.RowKit
set_option maxRecDepth 4000
/-- The door that a walk from the border goes through. -/
theorem okW_door {n : Nat} {i j : Int} {xs : List Int} {p : Int × Int} (hL : labB n xs = true) (hso : (bds n xs).find? (fun q => sameB q (i, j)) = some p) : okW n xs i j = true ∧ Goes xs n (-1) p ∧ wfrom xs n (-1) (inner (i, j)) = wfrom xs n (-1) p := by
  have hok : okW n xs i j = true := by simp [okW, hL, hso]
  obtain ⟨n', hnn, -, hij, -, -, d, -, hd, hdi, hg⟩ := okW_yes hok
  obtain rfl : n = n' := by omega
  rw [hso, Option.some.injEq] at hd
  subst hd
  exact ⟨hok, hg, wfrom_inner xs n (-1) (by rw [inner_inner (i, j) hij, hdi])⟩
set_option maxHeartbeats 1600000 in
theorem implFindFull (n : Int) (xs : List Int) (a : Option Addr) (b len cap : Nat) (w : World) (hn : xs.length = len) (hsm : len ≤ 1048576) (h : Rd w a b 0 xs) (hb0 : len = 0 ∨ b < w.heap.size) :
    Calls Try.prog 54 #[.int .i64 n, .slice a len cap] w fun e w' => e = .returned (.tuple #[.int .i64 (valFindFull n xs), .bool (okFindFull n xs)]) ∧ Below w.heap.size w w' := by
  cases hL : labB n xs
  · have H1 : Hid (valFindFull n xs = 0 ∧ okFindFull n xs = false) := Lib.hid (by simp [valFindFull, okFindFull, hL])
    have HR := Lib.hid (roomsOf_no n xs a b len cap w hn hsm h hb0 hL)
    rw [H1.out.1, H1.out.2]
    clear hL hn h hb0
    go_enter Try.func54, Try.ntmps54
    go_wp2_with fail
    refine HR.out.mono ?_
    rintro e w1 ⟨rfl, hb1⟩
    go_wp2_with (first | (with_reducible refine alloc_blk lr0 run_alloc_lr rfl rfl ?_) | ((with_reducible refine store_blk blkLR rfl _ _ rfl w1.heap.size lr0 lr0 ?_ ?_ ?_ lr0_size lr0_size lr0_one w1.heap.size (Nat.le_refl _) ?_); exact rfl; exact rfl; exact heap_alloc_new _ _; intro w3 hg3 hb3 hk3 hs3; have hB3 := bnext hb1 ((balloc (Below.refl w1.heap.size w1) (.cells lr0 117)).trans hb3)))
    go_ret2
    exact ⟨rfl, hB3⟩
  · obtain ⟨n, rfl⟩ := labB_nat hL
    have h2 := (labB_yes hL).2.1
    have hbd := ci_bd n h2
    have H1 : Hid (valFindFull n xs = lastI xs n ((bds n xs).find? (ffF xs n)) ∧ okFindFull n xs = ((bds n xs).find? (ffF xs n)).isSome) := Lib.hid (by simp [valFindFull, okFindFull, hL])
    have hFG : ffG (ci n).length (cpr (ci n)) (drB xs) = ffF xs n := funext fun p => ffG_ci xs h2 p
    have HG := Lib.hid (fun p (hp : p ∈ bds n xs) => goes_border hL hp)
    have HR := Lib.hid (roomsOf_yes n xs a b len cap w hn hsm h hb0 hL)
    have HL := Lib.hid hL
    clear hL hn h hb0
    go_enter Try.func54, Try.ntmps54
    go_wp2_with fail
    refine HR.out.mono ?_
    rintro e w1 ⟨R, rfl, hrv, hb1⟩
    obtain ⟨g, r, hrm, hrs, hro, hRs, hRo, r0, rk, hrj, hgb⟩ := rt_row HL.out hrv
    go_wp2_with (first | (with_reducible refine alloc_blk lr0 run_alloc_lr rfl rfl ?_) | ((with_reducible refine store_blk blkLR rfl _ _ rfl w1.heap.size R lr0 ?_ ?_ ?_ lr0_size hRs hRo w1.heap.size (Nat.le_refl _) ?_); exact rfl; exact rfl; exact heap_alloc_new _ _; intro w3 hg3 hb3 hk3 hs3; have hB13 := ((balloc (Below.refl w1.heap.size w1) (.cells lr0 117)).trans hb3)) | ((with_reducible refine load_win blkRms ?_ _ rfl (w1.heap.size) 46 ?_ R r hg3 hrj hrs ?_); exact rfl; exact rfl; simp only [Act.put, List.setIfInBounds_toArray, List.set_cons_zero, List.set_cons_succ]))
    have hfi := firstInside_any _ #[] (capD g) (drB xs) (ci n) (bps n (3 * n)) (Pr.cnt n) _ r w3 (fgr_ci HL.out) (hrm.later hB13) (fun p hp => goes_ci h2 (HG.out p hp).1)
    simp only [from_ci xs h2, hFG] at hfi
    have hB3 := bnext hb1 hB13
    refine hfi.mono ?_
    clear hg3 hfi
    rintro e w4 (⟨rfl, hno, hb4⟩ | ⟨p, hso, hpm, pv, u, v, rfl, ho4, hin, hb4⟩)
    · have HNO : Hid ((bds n xs).find? (ffF xs n) = none) := Lib.hid hno
      have hB4 := bnext hB3 hb4
      clear hno
      go_wp2_with (first | (with_reducible refine alloc_blk zeroW run_alloc_wk rfl rfl ?_) | ((with_reducible refine store_blk blkWalk rfl _ _ rfl w4.heap.size zeroW zeroW ?_ ?_ ?_ zeroW_size zeroW_size zeroW_one w4.heap.size (Nat.le_refl _) ?_); exact rfl; exact rfl; exact heap_alloc_new _ _; intro w5 hg5 hb5 hk5 hs5; have hB5 := bnext hB4 ((balloc (Below.refl w4.heap.size w4) (.cells zeroW 123)).trans hb5)))
      go_ret2
      exact ⟨ret_in (by rw [H1.out.1, HNO.out]; rfl) (by rw [H1.out.2, HNO.out]; rfl), hB5⟩
    · have HSO : Hid ((bds n xs).find? (ffF xs n) = some p) := Lib.hid hso
      obtain ⟨hgo, k0, hk0⟩ := HG.out p hpm
      obtain ⟨pre, l, e1, hl, e2⟩ := wfrom_last HL.out hgo hk0
      have hwl := wfrom_len xs n (-1) p
      have HLI : Hid (lastI xs n (some p) = (lastN (wfrom xs n (-1) p).1 : Int)) := Lib.hid rfl
      have hB4 := bnext hB3 hb4
      clear hgo hk0 hso hpm hin
      generalize wfrom xs n (-1) p = W at e1 e2 hwl HLI ho4 ⊢
      obtain ⟨L, D, f⟩ := W
      simp only at e1 e2 hwl HLI ho4 ⊢
      subst e1
      have hpl : pre.length ≤ 1000 := by rw [List.length_append] at hwl; simp only [List.length_cons, List.length_nil] at hwl; omega
      have ho4 := own_num ho4 (ints_len _).symm
      obtain ⟨-, pa, pc, pb, rfl, -⟩ := own_shape ho4
      have hwz : Hid ((wkA r (.slice pa (ints (pre ++ [l])).length pc) u v f).size = 7 ∧ (wkA r (.slice pa (ints (pre ++ [l])).length pc) u v f).all (·.oneCell') = true) := Lib.hid ⟨wkA_size _ _ _ _ _ hrs, wkA_one _ _ _ _ _ _ _ hro⟩
      clear e2 hwl
      go_wp2_with (first | (with_reducible refine alloc_blk zeroW run_alloc_wk rfl rfl ?_) | ((with_reducible refine store_blk blkWalk rfl _ _ rfl w4.heap.size (wkA r (.slice pa (ints (pre ++ [l])).length pc) u v f) zeroW ?_ ?_ ?_ zeroW_size hwz.out.1 hwz.out.2 w4.heap.size (Nat.le_refl _) ?_); exact rfl; exact rfl; exact heap_alloc_new _ _; intro w5 hg5 hb5 hk5 hs5; have hB5 := ((balloc (Below.refl w4.heap.size w4) (.cells zeroW 123)).trans hb5)) | ((with_reducible refine load_blk blkWalk ?_ _ rfl (w4.heap.size) ?_ _ hg5 hwz.out.1 ?_); exact rfl; exact rfl; simp only [Act.put, List.setIfInBounds_toArray, List.set_cons_zero, List.set_cons_succ]))
      refine (walkLast_any r _ u v f _ pre l w5 hrs (own_now ho4 hB5) hpl).mono ?_
      rintro e w6 ⟨rfl, hb6⟩
      go_wp2_with fail
      go_ret2
      exact ⟨ret_iv (by rw [H1.out.1, HSO.out, HLI.out, lastN_app]) (by rw [H1.out.2, HSO.out]; rfl), bnext (bnext hB4 hB5) hb6⟩
end Go.Proofs.Ytelchpdlfedleaa
