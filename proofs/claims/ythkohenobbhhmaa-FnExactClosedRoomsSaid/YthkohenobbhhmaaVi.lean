import Derived.Test.YthkohenobbhhmaaVh
namespace Go.Proofs.Ythkohenobbhhmaa
open Go.RowKit
set_option maxRecDepth 4000
set_option maxHeartbeats 1600000 in
theorem implPartnerOfFull (n : Int) (xs : List Int) (k : Int) (a : Option Addr) (b len cap : Nat) (w : World) (hn : xs.length = len) (hsm : len ≤ 1048576) (h : Rd w a b 0 xs) (hb0 : len = 0 ∨ b < w.heap.size) :
    Calls Try.prog 22 #[.int .i64 n, .slice a len cap, .int .i64 k] w fun e w' => e = .returned (.tuple #[.int .i64 (valPart n xs k), .bool (okPart n xs k)]) ∧ Below w.heap.size w w' := by
  cases hL : labB n xs
  · have H0 : okPart n xs k = false := by simp [okPart, okCell, hL]
    have H1 : Hid (valPart n xs k = 0 ∧ okPart n xs k = false) := Lib.hid ⟨part_no H0, H0⟩
    have HR := Lib.hid (roomsOf_no n xs a b len cap w hn hsm h hb0 hL)
    clear hL hn h hb0 H0
    go_enter Try.func22, Try.ntmps22
    go_wp2_with fail
    refine HR.out.mono ?_
    rintro e w1 ⟨rfl, hb1⟩
    go_wp2_with (first | (with_reducible refine alloc_rm rfl rfl ?_) | ((with_reducible refine store_rm rfl _ _ rfl w1.heap.size zeroR zeroR ?_ ?_ ?_ zeroR_size zeroR_size zeroR_one w1.heap.size (Nat.le_refl _) ?_); exact rfl; exact rfl; exact heap_alloc_new _ _; intro w3 hg3 hb3; have hB3 := bnext hb1 ((balloc (Below.refl w1.heap.size w1) (.cells zeroR 52)).trans hb3)))
    go_ret2
    exact ⟨ret_in H1.out.1 H1.out.2, hB3⟩
  · obtain ⟨n, rfl⟩ := labB_nat hL
    obtain ⟨h1, h2, hl, hA⟩ := labB_yes hL
    have hnn64 : n * n ≤ 64 := Nat.mul_le_mul h2 h2
    obtain ⟨hlen, -⟩ := ci_cq n (by omega)
    have HR := Lib.hid (roomsOf_yes n xs a b len cap w hn hsm h hb0 hL)
    have HL := Lib.hid hL
    cases hp : okCell n xs k
    · have H0 : okPart n xs k = false := by simp [okPart, hp]
      have H1 : Hid (valPart n xs k = 0 ∧ okPart n xs k = false) := Lib.hid ⟨part_no H0, H0⟩
      have hk : ¬ (0 ≤ k ∧ k < ((ci n).length : Nat)) := by simpa [okCell, hL] using hp
      have HK := Lib.hid (fun r ca cc w' hr => hasRoom_no n k r ca cc w' hr hk (by omega))
      clear hL hp hn h hb0 hl hA hk hlen H0
      go_enter Try.func22, Try.ntmps22
      go_wp2_with fail
      refine HR.out.mono ?_
      rintro e w1 ⟨r, rfl, hrv, hb1⟩
      obtain ⟨hsz, hone, -, -, g, ca, cc, r46, -⟩ := rooms_row HL.out hrv
      go_wp2_with (first | (with_reducible refine alloc_rm rfl rfl ?_) | ((with_reducible refine store_rm rfl _ _ rfl w1.heap.size r zeroR ?_ ?_ ?_ zeroR_size hsz hone w1.heap.size (Nat.le_refl _) ?_); exact rfl; exact rfl; exact heap_alloc_new _ _; intro w3 hg3 hb3; have hB13 := ((balloc (Below.refl w1.heap.size w1) (.cells zeroR 52)).trans hb3)) | ((with_reducible refine not_op rfl _ rfl true ?_ ?_); exact rfl; (with_reducible refine move_op rfl _ rfl ?_); (with_reducible refine load_rm_g ?_ _ rfl w1.heap.size ?_ r hg3 hsz ?_); exact rfl; exact rfl; simp only [Act.put, Act.eval, List.setIfInBounds_toArray, List.set_cons_zero, List.set_cons_succ]))
      refine (HK.out r ca cc _ r46).mono ?_
      rintro e w4 ⟨rfl, hb4⟩
      go_wp2_with fail
      go_ret2
      exact ⟨ret_in H1.out.1 H1.out.2, bnext (bnext hb1 hB13) hb4⟩
    · have hp2 := hp
      obtain ⟨n', k, e1, rfl, -, hk⟩ := okCell_yes hp
      have : n = n' := by omega
      subst this
      have H0 : okPart n xs k = (fullB xs n k && (wF xs n k).2.2) := by simp [okPart, hp2]
      have HK := Lib.hid (fun r ca cc w' hr => hasRoom_yes n k r ca cc w' hr hk (by omega))
      have hbd := ci_bd n h2
      clear hp hp2 hn h hb0 hl hA e1 hlen
      cases hf : fullB xs n k
      · have H2 : okPart n xs k = false := by rw [H0, hf]; rfl
        have H1 : Hid (valPart n xs k = 0 ∧ okPart n xs k = false) := Lib.hid ⟨part_no H2, H2⟩
        have HF := Lib.hid hf
        clear H0 H2 hf hL
        go_enter Try.func22, Try.ntmps22
        go_wp2_with fail
        refine HR.out.mono ?_
        rintro e w1 ⟨r, rfl, hrv, hb1⟩
        obtain ⟨hsz, hone, -, -, g, ca, cc, r46, -⟩ := rooms_row HL.out hrv
        go_wp2_with (first | (with_reducible refine alloc_rm rfl rfl ?_) | ((with_reducible refine store_rm rfl _ _ rfl w1.heap.size r zeroR ?_ ?_ ?_ zeroR_size hsz hone w1.heap.size (Nat.le_refl _) ?_); exact rfl; exact rfl; exact heap_alloc_new _ _; intro w3 hg3 hb3; have hB13 := ((balloc (Below.refl w1.heap.size w1) (.cells zeroR 52)).trans hb3)) | ((with_reducible refine not_op rfl _ rfl true ?_ ?_); exact rfl; (with_reducible refine move_op rfl _ rfl ?_); (with_reducible refine load_rm_g ?_ _ rfl w1.heap.size ?_ r hg3 hsz ?_); exact rfl; exact rfl; simp only [Act.put, Act.eval, List.setIfInBounds_toArray, List.set_cons_zero, List.set_cons_succ]))
        refine (HK.out r ca cc _ r46).mono ?_
        rintro e w4 ⟨rfl, hb4⟩
        have hz3 : w1.heap.size < w3.heap.size := by have := hb3.size; simp at this; omega
        have hg4 : Hid (w4.heap[w1.heap.size]? = some (.cells r 52 (0, 0))) := Lib.hid ((hb4.block _ hz3).trans hg3)
        have hB14 := bnext hB13 hb4
        have hrv4 := rooms_now hrv hB14
        clear hg3 hb3 hb4 hB13 hrv r46
        go_wp2_with ((with_reducible refine load_rm_g ?_ _ rfl w1.heap.size ?_ r hg4.out hsz ?_); exact rfl; exact rfl; simp only [Act.put, List.setIfInBounds_toArray, List.set_cons_zero, List.set_cons_succ])
        refine (isFull_any n xs _ r k _ HL.out hrv4 hk).mono ?_
        rintro e w5 ⟨rfl, hb5⟩
        rw [HF.out]
        go_wp2_with fail
        go_ret2
        exact ⟨ret_in H1.out.1 H1.out.2, bnext (bnext hb1 hB14) hb5⟩
      · have hlast := wF_last hL hk hf
        have HWF := Lib.hid (fun base r w' hrv => walkFromFull_any n xs base r k w' hL hrv hk hf)
        have HF := Lib.hid hf
        have HV : Hid (valPart n xs k = if okPart n xs k then (lastN (wF xs n k).1 : Int) else 0) := Lib.hid rfl
        rw [hf, Bool.true_and] at H0
        have H1 := Lib.hid H0
        have hwl : (wF xs n k).1.length ≤ (ci n).length := wfrom_len _ _ _ _
        clear H0 hf hL
        generalize wF xs n k = W at hlast HWF HV H1 hwl
        obtain ⟨L, D, f⟩ := W
        simp only at hlast hwl
        go_enter Try.func22, Try.ntmps22
        go_wp2_with fail
        refine HR.out.mono ?_
        rintro e w1 ⟨r, rfl, hrv, hb1⟩
        obtain ⟨hsz, hone, -, -, g, ca, cc, r46, -⟩ := rooms_row HL.out hrv
        go_wp2_with (first | (with_reducible refine alloc_rm rfl rfl ?_) | ((with_reducible refine store_rm rfl _ _ rfl w1.heap.size r zeroR ?_ ?_ ?_ zeroR_size hsz hone w1.heap.size (Nat.le_refl _) ?_); exact rfl; exact rfl; exact heap_alloc_new _ _; intro w3 hg3 hb3; have hB13 := ((balloc (Below.refl w1.heap.size w1) (.cells zeroR 52)).trans hb3)) | ((with_reducible refine not_op rfl _ rfl true ?_ ?_); exact rfl; (with_reducible refine move_op rfl _ rfl ?_); (with_reducible refine load_rm_g ?_ _ rfl w1.heap.size ?_ r hg3 hsz ?_); exact rfl; exact rfl; simp only [Act.put, Act.eval, List.setIfInBounds_toArray, List.set_cons_zero, List.set_cons_succ]))
        refine (HK.out r ca cc _ r46).mono ?_
        rintro e w4 ⟨rfl, hb4⟩
        have hz3 : w1.heap.size < w3.heap.size := by have := hb3.size; simp at this; omega
        have hg4 : Hid (w4.heap[w1.heap.size]? = some (.cells r 52 (0, 0))) := Lib.hid ((hb4.block _ hz3).trans hg3)
        have hB14 := bnext hB13 hb4
        have hrv4 := rooms_now hrv hB14
        have hz4 := hb4.size
        clear hg3 hb3 hb4 hB13 hrv r46
        go_wp2_with ((with_reducible refine load_rm_g ?_ _ rfl w1.heap.size ?_ r hg4.out hsz ?_); exact rfl; exact rfl; simp only [Act.put, List.setIfInBounds_toArray, List.set_cons_zero, List.set_cons_succ])
        refine (isFull_any n xs _ r k _ HL.out hrv4 hk).mono ?_
        rintro e w5 ⟨rfl, hb5⟩
        rw [HF.out]
        have hg5 : Hid (w5.heap[w1.heap.size]? = some (.cells r 52 (0, 0))) := Lib.hid ((hb5.block _ (by omega)).trans hg4.out)
        have hB15 := bnext hB14 hb5
        have hrv5 := rooms_now hrv4 hb5
        clear hrv4 hg4 hb5 hB14
        go_wp2_with ((with_reducible refine load_rm_g ?_ _ rfl w1.heap.size ?_ r hg5.out hsz ?_); exact rfl; exact rfl; simp only [Act.put, List.setIfInBounds_toArray, List.set_cons_zero, List.set_cons_succ])
        refine (HWF.out _ r w5 hrv5).mono ?_
        rintro e w6 ⟨pv, u, v, rfl, ho6, -, hb6⟩
        have ho6 := own_num ho6 (ints_len L).symm
        obtain ⟨-, pa, pc, pb, rfl, -⟩ := own_shape ho6
        have hwz : Hid ((wkA r (.slice pa (ints L).length pc) u v f).size = 52 ∧ (wkA r (.slice pa (ints L).length pc) u v f).all (·.oneCell') = true) := Lib.hid ⟨wkA_size _ _ _ _ _ hsz, wkA_one _ _ _ _ _ _ _ hone⟩
        have hB06 := bnext (bnext hb1 hB15) hb6
        clear hg5 hrv5 hb6 hB15 hb1
        cases f
        · go_wp2_with (first
            | (with_reducible refine alloc_blk zeroW run_alloc_wk rfl rfl ?_)
            | ((with_reducible refine store_blk blkWalk rfl _ _ rfl w6.heap.size (wkA r (.slice pa (ints L).length pc) u v false) zeroW ?_ ?_ ?_ zeroW_size hwz.out.1 hwz.out.2 w6.heap.size (Nat.le_refl _) ?_); exact rfl; exact rfl; exact heap_alloc_new _ _; intro w7 hg7 hb7 hk7 hs7; have hB67 := ((balloc (Below.refl w6.heap.size w6) (.cells zeroW 56)).trans hb7); have q51 := blk_cell hg7 51 _ (wk_at hsz _ _ _ _ 3)))
          go_ret2
          exact ⟨ret_in (by rw [HV.out, H1.out]; rfl) H1.out, bnext hB06 hB67⟩
        · rcases hlast with ⟨-, h⟩ | ⟨pre, l, e1, hl, -⟩
          · cases h
          · subst e1
            have hpl : pre.length ≤ 1000 := by rw [List.length_append] at hwl; simp only [List.length_cons, List.length_nil] at hwl; omega
            go_wp2_with (first
              | (with_reducible refine alloc_blk zeroW run_alloc_wk rfl rfl ?_)
              | ((with_reducible refine store_blk blkWalk rfl _ _ rfl w6.heap.size (wkA r (.slice pa (ints (pre ++ [l])).length pc) u v true) zeroW ?_ ?_ ?_ zeroW_size hwz.out.1 hwz.out.2 w6.heap.size (Nat.le_refl _) ?_); exact rfl; exact rfl; exact heap_alloc_new _ _; intro w7 hg7 hb7 hk7 hs7; have hB67 := ((balloc (Below.refl w6.heap.size w6) (.cells zeroW 56)).trans hb7); have q51 := blk_cell hg7 51 _ (wk_at hsz _ _ _ _ 3))
              | ((with_reducible refine load_blk blkWalk ?_ _ rfl w6.heap.size ?_ _ hg7 hwz.out.1 ?_); exact rfl; exact rfl; simp only [Act.put, List.setIfInBounds_toArray, List.set_cons_zero, List.set_cons_succ]))
            have ho7 := own_now ho6 hB67
            refine (walkLast_any r _ u v _ _ pre l w7 hsz ho7 hpl).mono ?_
            rintro e9 w8 ⟨rfl, hb8⟩
            go_wp2_with fail
            go_ret2
            exact ⟨ret_iv (by rw [HV.out, H1.out, if_pos rfl, lastN_app]) H1.out, bnext (bnext hB06 hB67) hb8⟩
def OutPartnerOfFull (w : World) (x : Int) (ok : Bool) (e : Ending) (w' : World) : Prop := e = .returned (.tuple #[.int .i64 x, .bool ok]) ∧ Below w.heap.size w w'
set_option maxHeartbeats 800000 in
theorem lawOf_PartnerOfFull (n : Int) (a : Option Addr) (len cap : Nat) (zs : List Int) (k : Int) (w : World) (hrow : IsRow w a len cap zs) (x : Int) (ok : Bool)
    (hs : ∀ a' b' cap' w', len ≤ 1048576 → Rd w' a' b' 0 (zs.take len) → (len = 0 ∨ b' < w'.heap.size) → Calls Try.prog 21 #[.int .i64 n, .slice a' len cap', .int .i64 k] w' (OutPartnerOfFull w' x ok))
    (hi : ∀ a' b' cap' w', len ≤ 1048576 → Rd w' a' b' 0 (zs.take len) → (len = 0 ∨ b' < w'.heap.size) → Calls Try.prog 22 #[.int .i64 n, .slice a' len cap', .int .i64 k] w' (OutPartnerOfFull w' x ok)) :
    Calls Try.prog 6 #[.int .i64 n, .slice a len cap, .int .i64 k] w fun e w' => e = .returned (.bool true) ∧ Below w.heap.size w w' := by
  obtain ⟨hlen, b, off, hr, hbb⟩ := isRow_rd hrow
  generalize zs.take len = xs at hlen hr hs hi
  have hm := hr.1
  unfold maxLen at hm
  rw [hlen] at hm
  have HR := Lib.hid hr
  have HL := Lib.hid hlen
  have HS := Lib.hid hs
  have HI := Lib.hid hi
  clear hr hrow hlen hs hi
  by_cases hbig : (1048576 : Int) < (len : Int)
  · go_enter Try.func6, Try.ntmps6
    go_wp2_with fail
    go_ret
    exact ⟨rfl, Below.refl _ _⟩
  · have hsm : len ≤ 1048576 := by omega
    have hok : (ok != ok) = false := by simp
    have hat : (x != x) = false := by simp
    go_enter Try.func6, Try.ntmps6
    go_wp2_with fail
    refine (toIntS_any xs a b off len cap w HL.out HR.out hbb hsm).mono ?_
    rintro e w1 ⟨v1, rfl, ho1, hb1⟩
    obtain ⟨-, a1, c1, b1, rfl, hx1, hr1⟩ := own_shape ho1
    have hbl1 : len = 0 ∨ b1 < w1.heap.size := by
      rcases hx1 with h | h
      · left
        rcases Nat.eq_zero_or_pos xs.length with h0 | h0
        · rw [← HL.out]; exact h0
        · have := (hr1.2 0 h0).1; rw [h] at this; cases this
      · exact .inr (own_lt ho1 b1 (by rw [h]; rfl))
    go_wp2_with fail
    rw [HL.out]
    refine (HS.out a1 b1 c1 w1 hsm hr1 hbl1).mono ?_
    rintro e w2 ⟨rfl, hb2⟩
    have hB2 := bnext hb1 hb2
    have hR2 : Rd w2 a b off xs := by
      refine ⟨HR.out.1, fun j hj => ⟨(HR.out.2 j hj).1, ?_⟩⟩
      rcases hbb with h | h
      · rw [HL.out, h] at hj; exact absurd hj (Nat.not_lt_zero _)
      · exact (hB2.cell h).trans (HR.out.2 j hj).2
    have hbb2 : len = 0 ∨ b < w2.heap.size := by
      rcases hbb with h | h
      · exact .inl h
      · exact .inr (by have := hB2.size; omega)
    have HR2 := Lib.hid hR2
    clear hR2 ho1 hr1 hb1 hb2 hbl1
    go_wp2_with fail
    refine (toIntS_any xs a b off len cap w2 HL.out HR2.out hbb2 hsm).mono ?_
    rintro e w3 ⟨v3, rfl, ho3, hb3⟩
    obtain ⟨-, a3, c3, b3, rfl, hx3, hr3⟩ := own_shape ho3
    have hbl3 : len = 0 ∨ b3 < w3.heap.size := by
      rcases hx3 with h | h
      · left
        rcases Nat.eq_zero_or_pos xs.length with h0 | h0
        · rw [← HL.out]; exact h0
        · have := (hr3.2 0 h0).1; rw [h] at this; cases this
      · exact .inr (own_lt ho3 b3 (by rw [h]; rfl))
    go_wp2_with fail
    rw [HL.out]
    refine (HI.out a3 b3 c3 w3 hsm hr3 hbl3).mono ?_
    rintro e w4 ⟨rfl, hb4⟩
    have hB4 := bnext (bnext hB2 hb3) hb4
    have ho4 := own_now ho3 hb4
    obtain ⟨-, a3', c3', b3', hv, hx3', hr4⟩ := own_shape ho4
    simp only [Value.slice.injEq] at hv
    obtain ⟨rfl, -, rfl⟩ := hv
    have hR4 : Rd w4 a b off xs := by
      refine ⟨HR.out.1, fun j hj => ⟨(HR.out.2 j hj).1, ?_⟩⟩
      rcases hbb with h | h
      · rw [HL.out, h] at hj; exact absurd hj (Nat.not_lt_zero _)
      · exact (hB4.cell h).trans (HR.out.2 j hj).2
    have hbb4 : len = 0 ∨ b < w4.heap.size := by
      rcases hbb with h | h
      · exact .inl h
      · exact .inr (by have := hB4.size; omega)
    have HR4 := Lib.hid hR4
    clear hR4 ho3 hr3 hb3 hb4 hbl3
    go_wp2_with fail
    refine (toIntS_any xs a b off len cap w4 HL.out HR4.out hbb4 hsm).mono ?_
    rintro e w5 ⟨v5, rfl, ho5, hb5⟩
    obtain ⟨-, a5, c5, b5, rfl, hx5, hr5⟩ := own_shape ho5
    have hr45 : Rd w5 a3 b3' 0 xs := hr4.below hb5 (by
      rcases hx3' with h | h
      · exact .inl h
      · exact .inr (own_lt ho4 b3' (by rw [h]; rfl)))
    have hB5 := bnext hB4 hb5
    go_wp2_with fail
    refine (eqIntS_same xs a3 a5 b3' 0 b5 0 _ _ c3 c5 w5 HL.out rfl hr45 hr5).mono ?_
    rintro e w6 ⟨rfl, hs6⟩
    have hB6 := below_same hB5 hs6
    go_wp2_with fail
    go_ret
    exact ⟨rfl, hB6⟩
theorem law_PartnerOfFull (n : Int) (a : Option Addr) (len cap : Nat) (zs : List Int) (k : Int) (w : World) (_ : (Lit.int .i64 n).wf = true) (hrow : IsRow w a len cap zs) (_ : (Lit.int .i64 k).wf = true) :
    Calls Try.prog 6 #[.int .i64 n, .slice a len cap, .int .i64 k] w fun e w' => e = .returned (.bool true) ∧ Below w.heap.size w w' :=
  lawOf_PartnerOfFull n a len cap zs k w hrow _ _ (fun a' b' cap' w' _ hr hb => specPartnerOfFull n _ k a' b' len cap' w' (isRow_rd hrow).1 hr hb) (fun a' b' cap' w' hsm hr hb => implPartnerOfFull n _ k a' b' len cap' w' (isRow_rd hrow).1 hsm hr hb)
end Go.Proofs.Ythkohenobbhhmaa
