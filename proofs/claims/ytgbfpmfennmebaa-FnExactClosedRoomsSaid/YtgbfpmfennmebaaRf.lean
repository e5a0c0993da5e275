import Derived.Test.YtgbfpmfennmebaaVm
import Derived.Test.YtgbfpmfennmebaaRe
import Derived.Test.YtgbfpmfennmebaaR5
namespace Go.Proofs.Ytgbfpmfennmebaa
open Go.RowKit
set_option maxRecDepth 4000
set_option maxHeartbeats 1600000 in
theorem implClosedRooms (n : Int) (xs : List Int) (a : Option Addr) (b len cap : Nat) (w : World) (hn : xs.length = len) (hsm : len ≤ 1048576) (h : Rd w a b 0 xs) (hb0 : len = 0 ∨ b < w.heap.size) :
    Calls Try.prog 18 #[.int .i64 n, .slice a len cap] w fun e w' => e = .returned (.tuple #[.int .i64 (valClosed n xs), .bool (labB n xs)]) ∧ Below w.heap.size w w' := by
  cases hL : labB n xs
  · have H1 : Hid (valClosed n xs = 0) := Lib.hid (by simp [valClosed, hL])
    have HR := Lib.hid (roomsOf_no n xs a b len cap w hn hsm h hb0 hL)
    skip
    clear hL hn h hb0
    go_enter Try.func18, Try.ntmps18
    go_wp2_with fail
    refine HR.out.mono ?_
    rintro e w1 ⟨rfl, hb1⟩
    go_wp2_with (first | (with_reducible refine alloc_blk lr0 run_alloc_lr rfl rfl ?_) | ((with_reducible refine store_blk blkLR rfl _ _ rfl w1.heap.size lr0 lr0 ?_ ?_ ?_ lr0_size lr0_size lr0_one w1.heap.size (Nat.le_refl _) ?_); exact rfl; exact rfl; exact heap_alloc_new _ _; intro w3 hg3 hb3 hk3 hs3; have hB3 := bnext hb1 ((balloc (Below.refl w1.heap.size w1) (.cells lr0 53)).trans hb3)))
    go_ret2
    exact ⟨ret_in H1.out rfl, hB3⟩
  · obtain ⟨n, rfl⟩ := labB_nat hL
    obtain ⟨h1, h2, -⟩ := labB_yes hL
    have H1 : Hid (valClosed n xs = (flt (clB xs n) (ci n).length).length) := Lib.hid (by simp [valClosed, hL])
    have HRL := Lib.hid (rch_len xs n)
    have HCL : Hid (∀ k, clB xs n k = ((dcell xs n k).length == 2 && !(rch xs n).getD k false)) := Lib.hid (fun _ => rfl)
    have hbd := ci_bd n h2
    have HR := Lib.hid (roomsOf_yes n xs a b len cap w hn hsm h hb0 hL)
    have HL := Lib.hid hL
    clear hL hn h hb0
    go_enter Try.func18, Try.ntmps18
    go_wp2_with fail
    refine HR.out.mono ?_
    rintro e w1 ⟨R, rfl, hrv, hb1⟩
    obtain ⟨g, r, hrm, hrs, hro, hRs, hRo, r0, rk, hrj, hgb⟩ := rt_row HL.out hrv
    obtain ⟨ca, cc, ba, bc, hre, -⟩ := hrm.v
    subst hre
    have hj0 : R[46]? = some (.slice ca (ci n).length cc) := hrj 0 (by omega)
    have hj1 : R[47]? = some (.slice ba (bps n (3 * n)).length bc) := hrj 1 (by omega)
    have hj2 : R[48]? = some (.func (.func 62) #[] (capD g)) := hrj 2 (by omega)
    go_wp2_with (first | (with_reducible refine alloc_blk lr0 run_alloc_lr rfl rfl ?_) | ((with_reducible refine store_blk blkLR rfl _ _ rfl w1.heap.size R lr0 ?_ ?_ ?_ lr0_size hRs hRo w1.heap.size (Nat.le_refl _) ?_); exact rfl; exact rfl; exact heap_alloc_new _ _; intro w3 hg3 hb3 hk3 hs3; have hB13 := ((balloc (Below.refl w1.heap.size w1) (.cells lr0 53)).trans hb3); have c46 := blk_cell hg3 46 _ hj0; have c47 := blk_cell hg3 47 _ hj1; have c48 := blk_cell hg3 48 _ hj2) | ((with_reducible refine load_blk blkLR ?_ _ rfl (w1.heap.size) ?_ R hg3 hRs ?_); exact rfl; exact rfl; simp only [Act.put, List.setIfInBounds_toArray, List.set_cons_zero, List.set_cons_succ]))
    have HRM := Lib.hid (fun w' (hb : Below w1.heap.size w1 w') => hrm.later hb)
    refine (reached_any n xs _ R w3 HL.out (hrv.later hB13)).mono ?_
    rintro e w4 ⟨G, rfl, hrG, hb4⟩
    have hs3' : w1.heap.size < w3.heap.size := (Array.getElem?_eq_some_iff.1 hg3).1
    have hg4 := (hb4.block w1.heap.size hs3').trans hg3
    have hB14 := bnext hB13 hb4
    have hs4 := hb4.size
    obtain ⟨m, hm⟩ : ∃ m, m = (ci n).length := ⟨_, rfl⟩
    have HMM := Lib.hid hm
    rw [← hm] at HRL hbd H1 ⊢
    generalize rch xs n = st at HRL HCL hrG
    generalize clB xs n = cB at HCL H1
    have hlG := hrG.lt
    clear hm hg3 hb3 hk3 hs3 hb4 hB13 c46 c47 c48
    go_wp2_with fail
    go_loopw [8, 22] (fun v8 v22 wr => ∃ k : Nat, k ≤ m ∧ v22 = .int .i64 k ∧ v8 = .int .i64 (flt cB k).length ∧ Below w4.heap.size w4 wr) (fun _ v22 _ => m - (intOf v22).toNat)
    case atStart => exact ⟨0, Nat.zero_le _, rfl, rfl, Below.refl _ _⟩
    case round =>
      obtain ⟨k, hk, rfl, rfl, hb⟩ := hrel
      by_cases hlt : k < m
      · have hrc : BRow wr G st := (hb.block G hlG).trans hrG
        have cs := hrc.cell k (by rw [HRL.out]; exact hlt)
        have hki : (k : Int) < (m : Int) := by omega
        have hfk := flt_len cB k
        have HCK := Lib.hid (HCL.out k)
        have HY2 : Hid (cB k = true → (flt cB (k + 1)).length = (flt cB k).length + 1) := Lib.hid (fun h => by rw [flt_yes cB k h, List.length_append]; rfl)
        have HN2 : Hid (cB k = false → (flt cB (k + 1)).length = (flt cB k).length) := Lib.hid (fun h => by rw [flt_no cB k h])
        generalize (flt cB k).length = fk at HY2 HN2 hfk ⊢
        generalize st.getD k false = rb at cs HCK
        generalize cB k = cb at HY2 HN2 HCK
        have hgr := (hb.block w1.heap.size (by omega)).trans hg4
        clear hrc
        cases rb
        · have hkc : k < (ci n).length := by rw [← HMM.out]; exact hlt
          have c46 := blk_cell hgr 46 _ hj0
          have c47 := blk_cell hgr 47 _ hj1
          have c48 := blk_cell hgr 48 _ hj2
          go_wp2_with fail
          refine (doorsT_any n xs _ g _ k _ HL.out (HRM.out wr (bnext hB14 hb)) hkc).mono ?_
          rintro e w5 ⟨v, rfl, hp, hb5⟩
          obtain ⟨da, dc, db, rfl, -⟩ := pair_shape hp
          have hB5 := bnext hb hb5
          generalize (dcell xs n k).length = dl at HCK ⊢
          clear hp hb hb5 cs hgr hkc c46 c47 c48
          by_cases hd : dl = 2
          · have hd1 : ((dl : Int) == 2) = true := by rw [hd]; rfl
            have e := Lib.hid (HY2.out (by rw [HCK.out, hd]; rfl))
            clear hd
            go_wp2_with fail
            go_roundw
            case rel => exact ⟨k + 1, by omega, by go_num, by rw [e.out]; go_num, hB5⟩
            case measure => simp [intOf]; omega
          · have hd1 : ((dl : Int) == 2) = false := by simp; omega
            have e := Lib.hid (HN2.out (by rw [HCK.out]; simp [hd]))
            clear hd
            go_wp2_with fail
            go_roundw
            case rel => exact ⟨k + 1, by omega, by go_num, by rw [e.out], hB5⟩
            case measure => simp [intOf]; omega
        · have e := Lib.hid (HN2.out (by rw [HCK.out]; simp))
          go_wp2_with fail
          go_roundw
          case rel => exact ⟨k + 1, by omega, by go_num, by rw [e.out], hb⟩
          case measure => simp [intOf]; omega
      · have e : k = m := by omega
        subst e
        go_wp2_with fail
        go_ret2
        exact ⟨ret_ii H1.out.symm rfl, bnext hb1 (bnext hB14 hb)⟩
def OutClosedRooms (w : World) (x : Int) (ok : Bool) (e : Ending) (w' : World) : Prop := e = .returned (.tuple #[.int .i64 x, .bool ok]) ∧ Below w.heap.size w w'
set_option maxHeartbeats 800000 in
theorem lawOf_ClosedRooms (n : Int) (a : Option Addr) (len cap : Nat) (zs : List Int) (w : World) (hrow : IsRow w a len cap zs) (x : Int) (ok : Bool)
    (hs : ∀ a' b' cap' w', len ≤ 1048576 → Rd w' a' b' 0 (zs.take len) → (len = 0 ∨ b' < w'.heap.size) → Calls Try.prog 17 #[.int .i64 n, .slice a' len cap'] w' (OutClosedRooms w' x ok))
    (hi : ∀ a' b' cap' w', len ≤ 1048576 → Rd w' a' b' 0 (zs.take len) → (len = 0 ∨ b' < w'.heap.size) → Calls Try.prog 18 #[.int .i64 n, .slice a' len cap'] w' (OutClosedRooms w' x ok)) :
    Calls Try.prog 6 #[.int .i64 n, .slice a len cap] w fun e w' => e = .returned (.bool true) ∧ Below w.heap.size w w' := by
  obtain ⟨hlen, b, off, hr, hbb⟩ := isRow_rd hrow
  generalize zs.take len = xs at hlen hr hs hi
  have hm := hr.1
  unfold maxLen at hm
  rw [hlen] at hm
  have HR := Lib.hid hr
  have HL := Lib.hid hlen
  have HS := Lib.hid hs
  have HI := Lib.hid hi
  clear hr hrow hlen hs hi
  by_cases hbig : (1048576 : Int) < (len : Int)
  · go_enter Try.func6, Try.ntmps6
    go_wp2_with fail
    go_ret
    exact ⟨rfl, Below.refl _ _⟩
  · have hsm : len ≤ 1048576 := by omega
    have hok : (ok != ok) = false := by simp
    have hat : (x != x) = false := by simp
    go_enter Try.func6, Try.ntmps6
    go_wp2_with fail
    refine (toIntS_any xs a b off len cap w HL.out HR.out hbb hsm).mono ?_
    rintro e w1 ⟨v1, rfl, ho1, hb1⟩
    obtain ⟨-, a1, c1, b1, rfl, hx1, hr1⟩ := own_shape ho1
    have hbl1 : len = 0 ∨ b1 < w1.heap.size := by
      rcases hx1 with h | h
      · left
        rcases Nat.eq_zero_or_pos xs.length with h0 | h0
        · rw [← HL.out]; exact h0
        · have := (hr1.2 0 h0).1; rw [h] at this; cases this
      · exact .inr (own_lt ho1 b1 (by rw [h]; rfl))
    go_wp2_with fail
    rw [HL.out]
    refine (HS.out a1 b1 c1 w1 hsm hr1 hbl1).mono ?_
    rintro e w2 ⟨rfl, hb2⟩
    have hB2 := bnext hb1 hb2
    have hR2 : Rd w2 a b off xs := by
      refine ⟨HR.out.1, fun j hj => ⟨(HR.out.2 j hj).1, ?_⟩⟩
      rcases hbb with h | h
      · rw [HL.out, h] at hj; exact absurd hj (Nat.not_lt_zero _)
      · exact (hB2.cell h).trans (HR.out.2 j hj).2
    have hbb2 : len = 0 ∨ b < w2.heap.size := by
      rcases hbb with h | h
      · exact .inl h
      · exact .inr (by have := hB2.size; omega)
    have HR2 := Lib.hid hR2
    clear hR2 ho1 hr1 hb1 hb2 hbl1
    go_wp2_with fail
    refine (toIntS_any xs a b off len cap w2 HL.out HR2.out hbb2 hsm).mono ?_
    rintro e w3 ⟨v3, rfl, ho3, hb3⟩
    obtain ⟨-, a3, c3, b3, rfl, hx3, hr3⟩ := own_shape ho3
    have hbl3 : len = 0 ∨ b3 < w3.heap.size := by
      rcases hx3 with h | h
      · left
        rcases Nat.eq_zero_or_pos xs.length with h0 | h0
        · rw [← HL.out]; exact h0
        · have := (hr3.2 0 h0).1; rw [h] at this; cases this
      · exact .inr (own_lt ho3 b3 (by rw [h]; rfl))
    go_wp2_with fail
    rw [HL.out]
    refine (HI.out a3 b3 c3 w3 hsm hr3 hbl3).mono ?_
    rintro e w4 ⟨rfl, hb4⟩
    have hB4 := bnext (bnext hB2 hb3) hb4
    have ho4 := own_now ho3 hb4
    obtain ⟨-, a3', c3', b3', hv, hx3', hr4⟩ := own_shape ho4
    simp only [Value.slice.injEq] at hv
    obtain ⟨rfl, -, rfl⟩ := hv
    have hR4 : Rd w4 a b off xs := by
      refine ⟨HR.out.1, fun j hj => ⟨(HR.out.2 j hj).1, ?_⟩⟩
      rcases hbb with h | h
      · rw [HL.out, h] at hj; exact absurd hj (Nat.not_lt_zero _)
      · exact (hB4.cell h).trans (HR.out.2 j hj).2
    have hbb4 : len = 0 ∨ b < w4.heap.size := by
      rcases hbb with h | h
      · exact .inl h
      · exact .inr (by have := hB4.size; omega)
    have HR4 := Lib.hid hR4
    clear hR4 ho3 hr3 hb3 hb4 hbl3
    go_wp2_with fail
    refine (toIntS_any xs a b off len cap w4 HL.out HR4.out hbb4 hsm).mono ?_
    rintro e w5 ⟨v5, rfl, ho5, hb5⟩
    obtain ⟨-, a5, c5, b5, rfl, hx5, hr5⟩ := own_shape ho5
    have hr45 : Rd w5 a3 b3' 0 xs := hr4.below hb5 (by
      rcases hx3' with h | h
      · exact .inl h
      · exact .inr (own_lt ho4 b3' (by rw [h]; rfl)))
    have hB5 := bnext hB4 hb5
    go_wp2_with fail
    refine (eqIntS_same xs a3 a5 b3' 0 b5 0 _ _ c3 c5 w5 HL.out rfl hr45 hr5).mono ?_
    rintro e w6 ⟨rfl, hs6⟩
    have hB6 := below_same hB5 hs6
    go_wp2_with fail
    go_ret
    exact ⟨rfl, hB6⟩
theorem law_ClosedRooms (n : Int) (a : Option Addr) (len cap : Nat) (zs : List Int) (w : World) (_ : (Lit.int .i64 n).wf = true) (hrow : IsRow w a len cap zs) :
    Calls Try.prog 6 #[.int .i64 n, .slice a len cap] w fun e w' => e = .returned (.bool true) ∧ Below w.heap.size w w' :=
  lawOf_ClosedRooms n a len cap zs w hrow _ _ (fun a' b' cap' w' _ hr hb => specClosedRooms n _ a' b' len cap' w' (isRow_rd hrow).1 hr hb) (fun a' b' cap' w' hsm hr hb => implClosedRooms n _ a' b' len cap' w' (isRow_rd hrow).1 hsm hr hb)
end Go.Proofs.Ytgbfpmfennmebaa
