import Derived.Test.YthkohenobbhhmaaVe
namespace Go.Proofs.Ythkohenobbhhmaa
open Go.RowKit
set_option maxRecDepth 4000
set_option maxHeartbeats 1600000 in
theorem implFindFull (n : Int) (xs : List Int) (a : Option Addr) (b len cap : Nat) (w : World) (hn : xs.length = len) (hsm : len ≤ 1048576) (h : Rd w a b 0 xs) (hb0 : len = 0 ∨ b < w.heap.size) :
    Calls Try.prog 20 #[.int .i64 n, .slice a len cap] w fun e w' => e = .returned (.tuple #[.int .i64 (valFindFull n xs), .bool (okFindFull n xs)]) ∧ Below w.heap.size w w' := by
  cases hL : labB n xs
  · have H1 : Hid (valFindFull n xs = 0 ∧ okFindFull n xs = false) := Lib.hid (by simp [valFindFull, okFindFull, hL])
    have HR := Lib.hid (roomsOf_no n xs a b len cap w hn hsm h hb0 hL)
    clear hL hn h hb0
    go_enter Try.func20, Try.ntmps20
    go_wp2_with fail
    refine HR.out.mono ?_
    rintro e w1 ⟨rfl, hb1⟩
    go_wp2_with (first | (with_reducible refine alloc_rm rfl rfl ?_) | ((with_reducible refine store_rm rfl _ _ rfl w1.heap.size zeroR zeroR ?_ ?_ ?_ zeroR_size zeroR_size zeroR_one w1.heap.size (Nat.le_refl _) ?_); exact rfl; exact rfl; exact heap_alloc_new _ _; intro w3 hg3 hb3; have hB3 := bnext hb1 ((balloc (Below.refl w1.heap.size w1) (.cells zeroR 52)).trans hb3)))
    go_ret2
    exact ⟨ret_in H1.out.1 H1.out.2, hB3⟩
  · obtain ⟨n, rfl⟩ := labB_nat hL
    obtain ⟨h1, h2, -⟩ := labB_yes hL
    have H1 : Hid (valFindFull n xs = lastI xs n ((bds n xs).find? (ffF xs n)) ∧ okFindFull n xs = ((bds n xs).find? (ffF xs n)).isSome) := Lib.hid (by simp [valFindFull, okFindFull, hL])
    have HR := Lib.hid (roomsOf_yes n xs a b len cap w hn hsm h hb0 hL)
    have HFS := Lib.hid (fun k hk h => find_step (0, 0) (bds n xs) (ffF xs n) k hk h)
    have hbl := bds_len n xs
    have HG := Lib.hid (fun k (hk : k < (bds n xs).length) => goes_border hL (find_mem (bds n xs) (0, 0) k hk))
    have HL := Lib.hid hL
    have hbd := ci_bd n h2
    have HBD : Hid ((bps n (3 * n)).filter (drB xs) = bds n xs) := Lib.hid rfl
    clear hL h hn hb0
    generalize bds n xs = ps at H1 HFS hbl HG HBD
    go_enter Try.func20, Try.ntmps20
    go_wp2_with fail
    refine HR.out.mono ?_
    rintro e w1 ⟨r, rfl, hrv, hb1⟩
    obtain ⟨hsz, hone, -⟩ := rooms_row HL.out hrv
    have HRV := Lib.hid (fun w' (hb : Below w1.heap.size w1 w') => rooms_now hrv hb)
    clear hrv HR
    go_wp2_with (first
      | (with_reducible refine alloc_rm rfl rfl ?_)
      | ((with_reducible refine store_blk blkRooms rfl _ _ rfl w1.heap.size r zeroR ?_ ?_ ?_ zeroR_size hsz hone w1.heap.size (Nat.le_refl _) ?_); exact rfl; exact rfl; exact heap_alloc_new _ _; intro w3 hg3 hb3 hk3 hs3; have hB13 := ((balloc (Below.refl w1.heap.size w1) (.cells zeroR 52)).trans hb3))
      | ((with_reducible refine load_blk blkRooms ?_ _ rfl w1.heap.size ?_ r hg3 hsz ?_); exact rfl; exact rfl; simp only [Act.put, List.setIfInBounds_toArray, List.set_cons_zero, List.set_cons_succ]))
    refine (borderDoors_any n xs _ r w3 HL.out (HRV.out w3 hB13)).mono ?_
    rintro e w4 ⟨v, rfl, hp, hb4⟩
    rw [HBD.out] at hp
    obtain ⟨da, dc, db, rfl, hrd⟩ := pair_shape hp
    have HRD := Lib.hid hrd
    have hs3' : w1.heap.size < w3.heap.size := by have e := (Array.getElem?_eq_some_iff.1 hg3).1; omega
    have hg4 := (hb4.block w1.heap.size hs3').trans hg3
    have hB14 := bnext hB13 hb4
    have hs4 := hb4.size
    clear hg3 hb3 hk3 hs3 hp hrd hb4 hB13
    go_wp2_with fail
    go_loopw [22] (fun v22 wr => ∃ k : Nat, k ≤ ps.length ∧ v22 = .int .i64 k ∧ Hid ((ps.take k).find? (ffF xs n) = none) ∧ Below w4.heap.size w4 wr) (fun v22 _ => ps.length - (intOf v22).toNat)
    case atStart => exact ⟨0, Nat.zero_le _, rfl, Lib.hid (by simp), Below.refl _ _⟩
    case round =>
      obtain ⟨k, hk, rfl, hf, hb⟩ := hrel
      by_cases hlt : k < ps.length
      · obtain ⟨rfl, hbl', c0, c1⟩ := (HRD.out.later hb) k hlt
        have HS := Lib.hid (HFS.out k hlt hf.out)
        obtain ⟨hgo, k0, hk0⟩ := HG.out k hlt
        obtain ⟨pre, l, e1, hl, e2⟩ := wfrom_last HL.out hgo hk0
        have hwl := wfrom_len xs n (-1) (ps.getD k (0, 0))
        have hki : (k : Int) < (ps.length : Int) := by omega
        have hz := hb.size
        clear hf hk0
        have HGO := Lib.hid hgo
        have HFF : Hid (ffF xs n (ps.getD k (0, 0)) = (wfrom xs n (-1) (ps.getD k (0, 0))).2.2) := Lib.hid rfl
        clear hgo
        generalize ps.getD k (0, 0) = p at c0 c1 HS HGO HFF e1 e2 hwl
        have HLI : Hid (lastI xs n (some p) = (lastN (wfrom xs n (-1) p).1 : Int)) := Lib.hid rfl
        obtain ⟨p1, p2⟩ := p
        generalize hWW : wfrom xs n (-1) (p1, p2) = W at HFF e1 e2 hwl HLI
        have HWW := Lib.hid hWW
        obtain ⟨L, D, f⟩ := W
        simp only at e1 e2 hwl c0 c1
        subst e1
        have hpl : pre.length ≤ 1000 := by rw [List.length_append] at hwl; simp only [List.length_cons, List.length_nil] at hwl; omega
        clear hWW e2 hwl
        obtain ⟨wi, hwi⟩ : ∃ wi : World, wi = wr := ⟨_, rfl⟩
        subst hwi
        have hgi := (hb.block w1.heap.size (by omega)).trans hg4
        have hga := (Below.heap_alloc wi (.cells #[.int .i64 p1, .int .i64 p2] 54) w1.heap.size (by omega)).trans hgi
        have hBa := balloc (bnext hB14 hb) (.cells #[.int .i64 p1, .int .i64 p2] 54)
        have hba := hb.alloc hz (.cells #[.int .i64 p1, .int .i64 p2] 54)
        clear hb hgi
        go_wp2_with ((with_reducible refine load_blk blkRooms ?_ _ rfl w1.heap.size ?_ r hga hsz ?_); exact rfl; exact rfl; simp only [Act.put, List.setIfInBounds_toArray, List.set_cons_zero, List.set_cons_succ])
        refine (walkFrom_any n xs _ r (-1) p1 p2 _ HL.out (HRV.out _ hBa) HGO.out).mono ?_
        rw [HWW.out]
        rintro e w6 ⟨pv, u, v, rfl, ho6, -, hb6⟩
        have hB6 := bnext hba hb6
        have hs6 := hB6.size
        have ho6 := own_num ho6 (ints_len (pre ++ [l])).symm
        obtain ⟨-, pa, pc, pb, rfl, -⟩ := own_shape ho6
        have hwz : Hid ((wkA r (.slice pa (ints (pre ++ [l])).length pc) u v f).size = 52 ∧ (wkA r (.slice pa (ints (pre ++ [l])).length pc) u v f).all (·.oneCell') = true) := Lib.hid ⟨wkA_size _ _ _ _ _ hsz, wkA_one _ _ _ _ _ _ _ hone⟩
        clear c0 c1 hga hBa hba hb6
        go_wp2_with (first
          | (with_reducible refine alloc_blk zeroW run_alloc_wk rfl rfl ?_)
          | ((with_reducible refine store_blk blkWalk rfl _ _ rfl w6.heap.size (wkA r (.slice pa (ints (pre ++ [l])).length pc) u v f) zeroW ?_ ?_ ?_ zeroW_size hwz.out.1 hwz.out.2 w6.heap.size (Nat.le_refl _) ?_); exact rfl; exact rfl; exact heap_alloc_new _ _; intro w7 hg7 hb7 hk7 hs7; have hB67 := ((balloc (Below.refl w6.heap.size w6) (.cells zeroW 56)).trans hb7); have q51 := blk_cell hg7 51 _ (wk_at hsz _ _ _ _ 3))
          | ((with_reducible refine load_blk blkWalk ?_ _ rfl w6.heap.size ?_ _ hg7 hwz.out.1 ?_); exact rfl; exact rfl; simp only [Act.put, List.setIfInBounds_toArray, List.set_cons_zero, List.set_cons_succ]))
        · have e := Lib.hid (HS.out.1 (by rw [HFF.out]; assumption))
          have ho7 := own_now ho6 hB67
          refine (walkLast_any r _ u v _ _ pre l w7 hsz ho7 hpl).mono ?_
          rintro e9 w8 ⟨rfl, hb8⟩
          go_wp2_with fail
          go_ret2
          exact ⟨ret_iv (by rw [H1.out.1, e.out, HLI.out, lastN_app]) (by rw [H1.out.2, e.out]; rfl), bnext (bnext (bnext hb1 (bnext hB14 hB6)) hB67) hb8⟩
        · have e := Lib.hid (HS.out.2 (by rw [HFF.out]; simpa using ‹_›))
          go_roundw
          case rel => exact ⟨k + 1, by omega, by go_num, e, bnext hB6 hB67⟩
          case measure => simp [intOf]; omega
      · have e : Hid (ps.find? (ffF xs n) = none) := by
          have := hf.out
          rwa [show k = ps.length by omega, List.take_length] at this
        go_wp2_with fail
        go_ret2
        exact ⟨ret_in (by rw [H1.out.1, e.out]; rfl) (by rw [H1.out.2, e.out]; rfl), bnext hb1 (bnext hB14 hb)⟩
def OutFindFull (w : World) (x : Int) (ok : Bool) (e : Ending) (w' : World) : Prop := e = .returned (.tuple #[.int .i64 x, .bool ok]) ∧ Below w.heap.size w w'
set_option maxHeartbeats 800000 in
theorem lawOf_FindFull (n : Int) (a : Option Addr) (len cap : Nat) (zs : List Int) (w : World) (hrow : IsRow w a len cap zs) (x : Int) (ok : Bool)
    (hs : ∀ a' b' cap' w', len ≤ 1048576 → Rd w' a' b' 0 (zs.take len) → (len = 0 ∨ b' < w'.heap.size) → Calls Try.prog 19 #[.int .i64 n, .slice a' len cap'] w' (OutFindFull w' x ok))
    (hi : ∀ a' b' cap' w', len ≤ 1048576 → Rd w' a' b' 0 (zs.take len) → (len = 0 ∨ b' < w'.heap.size) → Calls Try.prog 20 #[.int .i64 n, .slice a' len cap'] w' (OutFindFull w' x ok)) :
    Calls Try.prog 5 #[.int .i64 n, .slice a len cap] w fun e w' => e = .returned (.bool true) ∧ Below w.heap.size w w' := by
  obtain ⟨hlen, b, off, hr, hbb⟩ := isRow_rd hrow
  generalize zs.take len = xs at hlen hr hs hi
  have hm := hr.1
  unfold maxLen at hm
  rw [hlen] at hm
  have HR := Lib.hid hr
  have HL := Lib.hid hlen
  have HS := Lib.hid hs
  have HI := Lib.hid hi
  clear hr hrow hlen hs hi
  by_cases hbig : (1048576 : Int) < (len : Int)
  · go_enter Try.func5, Try.ntmps5
    go_wp2_with fail
    go_ret
    exact ⟨rfl, Below.refl _ _⟩
  · have hsm : len ≤ 1048576 := by omega
    have hok : (ok != ok) = false := by simp
    have hat : (x != x) = false := by simp
    go_enter Try.func5, Try.ntmps5
    go_wp2_with fail
    refine (toIntS_any xs a b off len cap w HL.out HR.out hbb hsm).mono ?_
    rintro e w1 ⟨v1, rfl, ho1, hb1⟩
    obtain ⟨-, a1, c1, b1, rfl, hx1, hr1⟩ := own_shape ho1
    have hbl1 : len = 0 ∨ b1 < w1.heap.size := by
      rcases hx1 with h | h
      · left
        rcases Nat.eq_zero_or_pos xs.length with h0 | h0
        · rw [← HL.out]; exact h0
        · have := (hr1.2 0 h0).1; rw [h] at this; cases this
      · exact .inr (own_lt ho1 b1 (by rw [h]; rfl))
    go_wp2_with fail
    rw [HL.out]
    refine (HS.out a1 b1 c1 w1 hsm hr1 hbl1).mono ?_
    rintro e w2 ⟨rfl, hb2⟩
    have hB2 := bnext hb1 hb2
    have hR2 : Rd w2 a b off xs := by
      refine ⟨HR.out.1, fun j hj => ⟨(HR.out.2 j hj).1, ?_⟩⟩
      rcases hbb with h | h
      · rw [HL.out, h] at hj; exact absurd hj (Nat.not_lt_zero _)
      · exact (hB2.cell h).trans (HR.out.2 j hj).2
    have hbb2 : len = 0 ∨ b < w2.heap.size := by
      rcases hbb with h | h
      · exact .inl h
      · exact .inr (by have := hB2.size; omega)
    have HR2 := Lib.hid hR2
    clear hR2 ho1 hr1 hb1 hb2 hbl1
    go_wp2_with fail
    refine (toIntS_any xs a b off len cap w2 HL.out HR2.out hbb2 hsm).mono ?_
    rintro e w3 ⟨v3, rfl, ho3, hb3⟩
    obtain ⟨-, a3, c3, b3, rfl, hx3, hr3⟩ := own_shape ho3
    have hbl3 : len = 0 ∨ b3 < w3.heap.size := by
      rcases hx3 with h | h
      · left
        rcases Nat.eq_zero_or_pos xs.length with h0 | h0
        · rw [← HL.out]; exact h0
        · have := (hr3.2 0 h0).1; rw [h] at this; cases this
      · exact .inr (own_lt ho3 b3 (by rw [h]; rfl))
    go_wp2_with fail
    rw [HL.out]
    refine (HI.out a3 b3 c3 w3 hsm hr3 hbl3).mono ?_
    rintro e w4 ⟨rfl, hb4⟩
    have hB4 := bnext (bnext hB2 hb3) hb4
    have ho4 := own_now ho3 hb4
    obtain ⟨-, a3', c3', b3', hv, hx3', hr4⟩ := own_shape ho4
    simp only [Value.slice.injEq] at hv
    obtain ⟨rfl, -, rfl⟩ := hv
    have hR4 : Rd w4 a b off xs := by
      refine ⟨HR.out.1, fun j hj => ⟨(HR.out.2 j hj).1, ?_⟩⟩
      rcases hbb with h | h
      · rw [HL.out, h] at hj; exact absurd hj (Nat.not_lt_zero _)
      · exact (hB4.cell h).trans (HR.out.2 j hj).2
    have hbb4 : len = 0 ∨ b < w4.heap.size := by
      rcases hbb with h | h
      · exact .inl h
      · exact .inr (by have := hB4.size; omega)
    have HR4 := Lib.hid hR4
    clear hR4 ho3 hr3 hb3 hb4 hbl3
    go_wp2_with fail
    refine (toIntS_any xs a b off len cap w4 HL.out HR4.out hbb4 hsm).mono ?_
    rintro e w5 ⟨v5, rfl, ho5, hb5⟩
    obtain ⟨-, a5, c5, b5, rfl, hx5, hr5⟩ := own_shape ho5
    have hr45 : Rd w5 a3 b3' 0 xs := hr4.below hb5 (by
      rcases hx3' with h | h
      · exact .inl h
      · exact .inr (own_lt ho4 b3' (by rw [h]; rfl)))
    have hB5 := bnext hB4 hb5
    go_wp2_with fail
    refine (eqIntS_same xs a3 a5 b3' 0 b5 0 _ _ c3 c5 w5 HL.out rfl hr45 hr5).mono ?_
    rintro e w6 ⟨rfl, hs6⟩
    have hB6 := below_same hB5 hs6
    go_wp2_with fail
    go_ret
    exact ⟨rfl, hB6⟩
theorem law_FindFull (n : Int) (a : Option Addr) (len cap : Nat) (zs : List Int) (w : World) (_ : (Lit.int .i64 n).wf = true) (hrow : IsRow w a len cap zs) :
    Calls Try.prog 5 #[.int .i64 n, .slice a len cap] w fun e w' => e = .returned (.bool true) ∧ Below w.heap.size w w' :=
  lawOf_FindFull n a len cap zs w hrow _ _ (fun a' b' cap' w' _ hr hb => specFindFull n _ a' b' len cap' w' (isRow_rd hrow).1 hr hb) (fun a' b' cap' w' hsm hr hb => implFindFull n _ a' b' len cap' w' (isRow_rd hrow).1 hsm hr hb)
end Go.Proofs.Ythkohenobbhhmaa
