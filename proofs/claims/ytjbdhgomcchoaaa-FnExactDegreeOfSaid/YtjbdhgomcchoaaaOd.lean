import Derived.Test.YtjbdhgomcchoaaaOc
import Derived.Test.YtjbdhgomcchoaaaCm
import Derived.Test.YtjbdhgomcchoaaaCn
namespace Go.Proofs.Ytjbdhgomcchoaaa
open Go.RowKit
theorem cells_keep {w w' : World} {base : Nat} {v : Value} {cs : List (List Int)} (h : CellsV w base v cs) (hk : ∀ k, base ≤ k → w'.heap[k]? = w.heap[k]?) : CellsV w' base v cs := by
  obtain ⟨vs, h1, h2, h3⟩ := h
  exact ⟨vs, own_keep h1 (fun k hk' => hk k (h1.lt k hk').1), fun i hi => own_keep (h2 i hi) (fun k hk' => hk k ((h2 i hi).lt k hk').1), h3⟩
theorem prs3 (n k : Nat) : prs (cl n k) (cl n k).length = cpairs n k := rfl
theorem spec_cell3 {w : World} {base : Nat} {a : Option Addr} {m cap n k : Nat} (h2 : n ≤ 8) (hc : CellsV w base (.slice a m cap) (ci n)) (hk : k < (ci n).length) :
    m = (ci n).length ∧ ∃ g ra rc rb, a = some ⟨g, 0, none⟩ ∧ w.cell? ⟨g, k, none⟩ = some (.slice ra 3 rc) ∧ Rd w ra rb 0 ((cl n k).map (fun (i : Nat) => (i : Int))) ∧ (ra = none ∨ rb < w.heap.size) ∧ 3 ≤ rc ∧ rc ≤ maxLen := by
  obtain ⟨hm, -, hrows⟩ := cells_row hc
  obtain ⟨g, ra, rc, rb, ha, -, hgl, c1, hx, hrd, hown, -⟩ := hrows k hk
  obtain ⟨-, hall⟩ := ci_cq n (by omega)
  obtain ⟨hrow, -⟩ := hall k hk
  rw [hrow] at c1 hrd hown
  have h3 : 3 ≤ rc := own_cap hown
  have hmx : rc ≤ maxLen := by
    rcases hown.2 with ⟨hv, h0⟩ | ⟨g', cap', cur, hv, hg, hh, hcc, hmm, -⟩
    · simp at h0
    · simp only [Value.slice.injEq] at hv
      omega
  exact ⟨hm, g, ra, rc, rb, ha, c1, hrd, hx.imp_right fun h => h.2.1, h3, hmx⟩
def outDoorsOfCell (n : Int) (xs : List Int) (k : Int) : List (List Int) := if okCell n xs k then outp xs (cpairs n.toNat k.toNat) else []
theorem outDoors_len (n : Int) (xs : List Int) (k : Int) : (outDoorsOfCell n xs k).length ≤ 100000 := by
  unfold outDoorsOfCell
  split
  · exact Nat.le_trans (outp_len _ _) (by simp [cpairs])
  · simp
theorem outp_row (xs : List Int) (ps : List (Int × Int)) (i : Nat) (hi : i < (outp xs ps).length) : ((outp xs ps).getD i []).length ≤ 1000 := by
  simp only [outp] at hi ⊢
  rw [List.getD_eq_getElem?_getD, List.getElem?_map, List.getElem?_eq_getElem (by simpa using hi)]
  simp [lst]
theorem outDoors_row (n : Int) (xs : List Int) (k : Int) : ∀ i, i < (outDoorsOfCell n xs k).length → ((outDoorsOfCell n xs k).getD i []).length ≤ 1000 := by
  intro i hi
  unfold outDoorsOfCell at hi ⊢
  split
  · rename_i h; rw [if_pos h] at hi; exact outp_row _ _ i hi
  · rename_i h; rw [if_neg h] at hi; simp at hi
set_option maxHeartbeats 800000 in
theorem specDoorsOfCell (n : Int) (xs : List Int) (k : Int) (a : Option Addr) (b len cap : Nat) (w : World) (hn : xs.length = len) (h : Rd w a b 0 xs) (hb0 : len = 0 ∨ b < w.heap.size) :
    Calls Try.prog 34 #[.int .i64 n, .slice a len cap, .int .i64 k] w (CGives w (outDoorsOfCell n xs k) (okCell n xs k)) := by
  have HP := Lib.hid (doCell_any n xs k a b len cap w hn h)
  cases hp : okCell n xs k
  · have H1 : Hid (outDoorsOfCell n xs k = []) := Lib.hid (by simp [outDoorsOfCell, hp])
    rw [hp] at HP
    clear hp h
    rw [H1.out]
    go_enter Try.func34, Try.ntmps34
    go_wp2_with fail
    refine HP.out.mono ?_
    rintro e w1 ⟨rfl, rfl⟩
    go_wp2_with fail
    go_ret2
    exact cgives_none (Below.refl _ _)
  · rw [hp] at HP
    obtain ⟨n, k, rfl, rfl, hL, hk⟩ := okCell_yes hp
    have H1 : Hid (outDoorsOfCell n xs k = outp xs (cpairs n k)) := Lib.hid (by simp [outDoorsOfCell, hp])
    obtain ⟨h1, h2, hl, hA⟩ := labB_yes hL
    have he := Lib.hid (ci_eq n (by omega) h1)
    have HD := Lib.hid (fun w' a' b' cap' (hb : Below w.heap.size w w') (hr : Rd w' a' b' 0 ((cl n k).map (fun (i : Nat) => (i : Int)))) (hx : a' = none ∨ b' < w'.heap.size) (h3 : 3 ≤ cap') (hm : cap' ≤ maxLen) =>
      doOfCell_any xs (cl n k) a a' b b' len 3 cap cap' w' hn rfl (h.later hn hb0 hb) hr (lt_later hb0 hb) hx h3 hA (cl_in n k xs hL hk) (by simp [cl]) hm)
    rw [H1.out]
    clear hp h hL hl hA hn hb0
    go_enter Try.func34, Try.ntmps34
    go_wp2_with fail
    refine HP.out.mono ?_
    rintro e w1 ⟨rfl, rfl⟩
    go_wp2_with fail
    refine (meCells_any n h1 h2 _).mono ?_
    rintro e w2 ⟨v, rfl, hc, hb⟩
    rw [← he.out] at hc
    obtain ⟨sa, m, sc, rfl⟩ := cells_shape hc
    obtain ⟨rfl, g, ra, rc, rb, rfl, c1, hrd, hx, h3, hm⟩ := spec_cell3 h2 hc hk
    have hki : (k : Int) < ((ci n).length : Int) := by omega
    go_wp2_with fail
    refine (HD.out _ _ _ _ hb hrd hx h3 hm).mono ?_
    rintro e w3 ⟨v, rfl, hcv, hb3⟩
    rw [prs3] at hcv
    obtain ⟨ta, tm, tc, rfl⟩ := cells_shape hcv
    go_wp2_with fail
    go_ret2
    exact ⟨_, rfl, cells_base hcv hb.size, bnext hb hb3⟩
set_option maxHeartbeats 800000 in
theorem implDoorsOfCell (n : Int) (xs : List Int) (k : Int) (a : Option Addr) (b len cap : Nat) (w : World) (hn : xs.length = len) (hsm : len ≤ 1048576) (h : Rd w a b 0 xs) (hb0 : len = 0 ∨ b < w.heap.size) :
    Calls Try.prog 35 #[.int .i64 n, .slice a len cap, .int .i64 k] w (CGives w (outDoorsOfCell n xs k) (okCell n xs k)) := by
  cases hL : labB n xs
  · have hp : okCell n xs k = false := by simp [okCell, hL]
    have H1 : Hid (outDoorsOfCell n xs k = []) := Lib.hid (by simp [outDoorsOfCell, hp])
    have HR := Lib.hid (roomsOf_no n xs a b len cap w hn hsm h hb0 hL)
    rw [H1.out, hp]
    clear hL hn h hb0 hp
    go_enter Try.func35, Try.ntmps35
    go_wp2_with fail
    refine HR.out.mono ?_
    rintro e w1 ⟨rfl, hb1⟩
    go_wp2_with (first | (with_reducible refine alloc_rm rfl rfl ?_) | ((with_reducible refine store_rm rfl _ _ rfl w1.heap.size zeroR zeroR ?_ ?_ ?_ zeroR_size zeroR_size zeroR_one w1.heap.size (Nat.le_refl _) ?_); exact rfl; exact rfl; exact heap_alloc_new _ _; intro w3 hg3 hb3; have hB3 := bnext hb1 ((balloc (Below.refl w1.heap.size w1) (.cells zeroR 66)).trans hb3)))
    go_ret2
    exact cgives_none hB3
  · obtain ⟨n, rfl⟩ := labB_nat hL
    obtain ⟨h1, h2, hl, hA⟩ := labB_yes hL
    have hnn64 : n * n ≤ 64 := Nat.mul_le_mul h2 h2
    obtain ⟨hlen, -⟩ := ci_cq n (by omega)
    have HR := Lib.hid (roomsOf_yes n xs a b len cap w hn hsm h hb0 hL)
    have HL := Lib.hid hL
    cases hp : okCell n xs k
    · have H1 : Hid (outDoorsOfCell n xs k = []) := Lib.hid (by simp [outDoorsOfCell, hp])
      have hk : ¬ (0 ≤ k ∧ k < ((ci n).length : Nat)) := by simpa [okCell, hL] using hp
      have HK := Lib.hid (fun r ca cc w' hr => hasRoom_no n k r ca cc w' hr hk (by omega))
      rw [H1.out]
      clear hL hp hn h hb0 hl hA hk hlen
      go_enter Try.func35, Try.ntmps35
      go_wp2_with fail
      refine HR.out.mono ?_
      rintro e w1 ⟨r, rfl, hrv, hb1⟩
      obtain ⟨hsz, hone, -, -, g, ca, cc, r46, -⟩ := rooms_row HL.out hrv
      go_wp2_with (first | (with_reducible refine alloc_rm rfl rfl ?_) | ((with_reducible refine store_rm rfl _ _ rfl w1.heap.size r zeroR ?_ ?_ ?_ zeroR_size hsz hone w1.heap.size (Nat.le_refl _) ?_); exact rfl; exact rfl; exact heap_alloc_new _ _; intro w3 hg3 hb3; have hB13 := ((balloc (Below.refl w1.heap.size w1) (.cells zeroR 66)).trans hb3)) | ((with_reducible refine not_op rfl _ rfl true ?_ ?_); exact rfl; (with_reducible refine move_op rfl _ rfl ?_); (with_reducible refine load_rm_g ?_ _ rfl w1.heap.size ?_ r hg3 hsz ?_); exact rfl; exact rfl; simp only [Act.put, Act.eval, List.setIfInBounds_toArray, List.set_cons_zero, List.set_cons_succ]))
      refine (HK.out r ca cc _ r46).mono ?_
      rintro e w4 ⟨rfl, hb4⟩
      go_wp2_with fail
      go_ret2
      exact cgives_none (bnext (bnext hb1 hB13) hb4)
    · obtain ⟨n', k, e1, rfl, -, hk⟩ := okCell_yes hp
      have : n = n' := by omega
      subst this
      have H1 : Hid (outDoorsOfCell n xs k = outp xs (cpairs n k)) := Lib.hid (by simp [outDoorsOfCell, hp])
      have HK := Lib.hid (fun r ca cc w' hr => hasRoom_yes n k r ca cc w' hr hk (by omega))
      have hfl : ((cpairs n k).filter (drB xs)).length ≤ 3 := Nat.le_trans (List.length_filter_le _ _) (by simp [cpairs])
      have HO : Hid (outp xs (cpairs n k) = ((cpairs n k).filter (drB xs)).map lst) := Lib.hid rfl
      rw [H1.out]
      clear hL hp hn h hb0 hl hA e1 hlen
      go_enter Try.func35, Try.ntmps35
      go_wp2_with fail
      refine HR.out.mono ?_
      rintro e w1 ⟨r, rfl, hrv, hb1⟩
      obtain ⟨hsz, hone, -, -, g, ca, cc, r46, -⟩ := rooms_row HL.out hrv
      go_wp2_with (first | (with_reducible refine alloc_rm rfl rfl ?_) | ((with_reducible refine store_rm rfl _ _ rfl w1.heap.size r zeroR ?_ ?_ ?_ zeroR_size hsz hone w1.heap.size (Nat.le_refl _) ?_); exact rfl; exact rfl; exact heap_alloc_new _ _; intro w3 hg3 hb3; have hB13 := ((balloc (Below.refl w1.heap.size w1) (.cells zeroR 66)).trans hb3)) | ((with_reducible refine not_op rfl _ rfl true ?_ ?_); exact rfl; (with_reducible refine move_op rfl _ rfl ?_); (with_reducible refine load_rm_g ?_ _ rfl w1.heap.size ?_ r hg3 hsz ?_); exact rfl; exact rfl; simp only [Act.put, Act.eval, List.setIfInBounds_toArray, List.set_cons_zero, List.set_cons_succ]))
      refine (HK.out r ca cc _ r46).mono ?_
      rintro e w4 ⟨rfl, hb4⟩
      have hz3 : w1.heap.size < w3.heap.size := by have := hb3.size; simp at this; omega
      have hg4 : Hid (w4.heap[w1.heap.size]? = some (.cells r 66 (0, 0))) := Lib.hid ((hb4.block _ hz3).trans hg3)
      have hB14 := bnext hB13 hb4
      have hrv4 := rooms_now hrv hB14
      clear hg3 hb3 hb4 hB13 hrv r46
      go_wp2_with ((with_reducible refine load_rm_g ?_ _ rfl w1.heap.size ?_ r hg4.out hsz ?_); exact rfl; exact rfl; simp only [Act.put, List.setIfInBounds_toArray, List.set_cons_zero, List.set_cons_succ])
      refine (doorsOf_any n xs _ r k _ HL.out hrv4 hk).mono ?_
      rintro e w5 ⟨v, rfl, hp5, hb5⟩
      obtain ⟨pa, pc, pb, rfl, hpr⟩ := pair_shape hp5
      have hB5 := bnext (bnext hb1 hB14) hb5
      go_wp2_with fail
      refine (listsOf_any _ pa pb pc _ hpr (by omega)).mono ?_
      rintro e w6 ⟨v, rfl, hc6, hb6⟩
      rw [← HO.out] at hc6
      obtain ⟨ta, tm, tc, rfl⟩ := cells_shape hc6
      go_wp2_with fail
      go_ret2
      exact ⟨_, rfl, cells_base hc6 hB5.size, bnext hB5 hb6⟩
end Go.Proofs.Ytjbdhgomcchoaaa
