import Derived.Test.YtjbdhgomcchoaaaBr
namespace Go.Proofs.Ytjbdhgomcchoaaa
open Go.RowKit
/-- The turns of the first k doors. -/
def tn (xs : List Int) (ds : List (Int × Int)) : Nat → Int
  | 0 => 0
  | k + 1 => tn xs ds k + (xs.getD (ds.getD k (0, 0)).2.toNat 0 - xs.getD (ds.getD k (0, 0)).1.toNat 0)
theorem pts_filter {m : Nat} {ps : List (Int × Int)} {f : Int × Int → Bool} (h : Pts m ps) : Pts m (ps.filter f) := by
  intro k hk
  have hm : (ps.filter f).getD k (0, 0) ∈ ps := by
    rw [List.getD_eq_getElem?_getD, List.getElem?_eq_getElem hk]
    exact (List.mem_filter.1 (List.getElem_mem hk)).1
  obtain ⟨i, hi, e⟩ := List.mem_iff_getElem.1 hm
  have := h i hi
  rw [List.getD_eq_getElem?_getD, List.getElem?_eq_getElem hi] at this
  simp only [Option.getD_some] at this
  rw [e] at this
  exact this
theorem bps_pts (n : Nat) (xs : List Int) (hL : labB n xs = true) : Pts xs.length (bps n (3 * n)) := by
  obtain ⟨h1, h2, hl, -⟩ := labB_yes hL
  intro t ht
  rw [bps_len] at ht
  refine ⟨be n t, be n ((t + 1) % (3 * n)), ?_, ?_, ?_⟩
  · simp [bps, bp, List.getD, ht]
  · have := be_lt n (by omega) t ht; omega
  · have := be_lt n (by omega) ((t + 1) % (3 * n)) (Nat.mod_lt _ (by omega)); omega
theorem tn_bd (xs : List Int) (ds : List (Int × Int)) (hA : allB 0 2 xs = true) (hp : Pts xs.length ds) : ∀ k, k ≤ ds.length → -(2 * (k : Int)) ≤ tn xs ds k ∧ tn xs ds k ≤ 2 * (k : Int)
  | 0, _ => by simp [tn]
  | k + 1, hk => by
    have ih := tn_bd xs ds hA hp k (by omega)
    obtain ⟨i, j, e, hi, hj⟩ := hp k (by omega)
    have a := allB_at hA i hi
    have b := allB_at hA j hj
    simp only [tn, e, Int.toNat_natCast]
    omega
def bds (n : Nat) (xs : List Int) : List (Int × Int) := (bps n (3 * n)).filter (drB xs)
theorem bds_len (n : Nat) (xs : List Int) : (bds n xs).length ≤ 3 * n := Nat.le_trans (List.length_filter_le _ _) (by rw [bps_len]; exact Nat.le_refl _)
def okTurnsOfBorder (n : Int) (xs : List Int) : Bool := labB n xs
def valTurnsOfBorder (n : Int) (xs : List Int) : Int := if labB n xs then tn xs (bds n.toNat xs) (bds n.toNat xs).length else 0
set_option maxHeartbeats 1600000 in
theorem specTurnsOfBorder (n : Int) (xs : List Int) (a : Option Addr) (b len cap : Nat) (w : World) (hn : xs.length = len) (h : Rd w a b 0 xs) (hb0 : len = 0 ∨ b < w.heap.size) :
    Calls Try.prog 44 #[.int .i64 n, .slice a len cap] w fun e w' => e = .returned (.tuple #[.int .i64 (valTurnsOfBorder n xs), .bool (okTurnsOfBorder n xs)]) ∧ Below w.heap.size w w' := by
  have HM := Lib.hid (meLabels_any n xs a b 0 len cap w hn h)
  cases hL : labB n xs
  · have H1 : Hid (valTurnsOfBorder n xs = 0 ∧ okTurnsOfBorder n xs = false) := Lib.hid (by simp [valTurnsOfBorder, okTurnsOfBorder, hL])
    rw [hL] at HM
    rw [H1.out.1, H1.out.2]
    clear hL h
    go_enter Try.func44, Try.ntmps44
    go_wp2_with fail
    refine HM.out.mono ?_
    rintro e w1 ⟨rfl, rfl⟩
    go_wp2_with fail
    go_ret2
    exact ⟨rfl, Below.refl _ _⟩
  · obtain ⟨n, rfl⟩ := labB_nat hL
    obtain ⟨h1, h2, hl, hA⟩ := labB_yes hL
    have H1 : Hid (valTurnsOfBorder n xs = tn xs (bds n xs) (bds n xs).length ∧ okTurnsOfBorder n xs = true) := Lib.hid (by simp [valTurnsOfBorder, okTurnsOfBorder, hL])
    have HA := Lib.hid (doBorder_any n xs a b len cap w hn h hb0 hL)
    have HO : Hid (outp xs (bps n (3 * n)) = (bds n xs).map lst) := Lib.hid rfl
    have HPT := Lib.hid (pts_filter (f := drB xs) (bps_pts n xs hL))
    have HTN := Lib.hid (tn_bd xs (bds n xs) hA (pts_filter (f := drB xs) (bps_pts n xs hL)))
    have hdl := bds_len n xs
    have HRD := Lib.hid (fun w' (hb : Below w.heap.size w w') => h.later hn hb0 hb)
    have HAA := Lib.hid hA
    rw [hL] at HM
    rw [H1.out.1, H1.out.2]
    have hcn := (Pr.cnt_le n (by omega)).1
    have hlen45 : len ≤ 45 := by omega
    clear hL h hA hl
    go_enter Try.func44, Try.ntmps44
    go_wp2_with fail
    refine HM.out.mono ?_
    rintro e w1 ⟨rfl, rfl⟩
    go_wp2_with fail
    refine HA.out.mono ?_
    rintro e w1 ⟨v, rfl, hc, hb1⟩
    rw [HO.out] at hc
    obtain ⟨ta, tm, tc, rfl⟩ := cells_shape hc
    obtain ⟨htm, -, hrows⟩ := cells_row hc
    rw [List.length_map] at htm
    subst htm
    have HR := Lib.hid hrows
    clear hrows hc
    go_wp2_with fail
    go_loopw [6, 17] (fun v6 v17 wr => ∃ k : Nat, k ≤ (bds n xs).length ∧ v17 = .int .i64 k ∧ v6 = .int .i64 (tn xs (bds n xs) k) ∧ Below w1.heap.size w1 wr) (fun _ v17 _ => (bds n xs).length - (intOf v17).toNat)
    case atStart => exact ⟨0, Nat.zero_le _, rfl, rfl, Below.refl _ _⟩
    case round =>
      obtain ⟨k, hk, rfl, rfl, hb⟩ := hrel
      by_cases hlt : k < (bds n xs).length
      · obtain ⟨g, ra, rc, rb, rfl, -, hgl, c1, hx, hr, -, -⟩ := HR.out k (by rw [List.length_map]; exact hlt)
        obtain ⟨i, j, hij, hi, hj⟩ := HPT.out k hlt
        have hrow : ((bds n xs).map lst).getD k [] = [(i : Int), (j : Int)] := by
          rw [List.getD_eq_getElem?_getD, List.getElem?_map, List.getElem?_eq_getElem hlt]
          have e : (bds n xs)[k] = ((i : Int), (j : Int)) := by
            have e2 := hij
            rw [List.getD_eq_getElem?_getD, show ((bps n (3 * n)).filter (drB xs)) = bds n xs from rfl, List.getElem?_eq_getElem hlt] at e2
            exact e2
          simp [e, lst]
        rw [hrow] at c1 hr
        have c1 := (hb.cell (p := ⟨g, k, none⟩) hgl).trans c1
        have hr1 := hr.below hb (hx.imp_right fun h => h.2.1)
        obtain ⟨rfl, e0⟩ := hr1.2 0 (by simp)
        have e1 := (hr1.2 1 (by simp)).2
        have HW := HRD.out _ (bnext hb1 hb)
        obtain ⟨rfl, l0⟩ := HW.2 i hi
        have l1 := (HW.2 j hj).2
        have bi := allB_at HAA.out i hi
        have bj := allB_at HAA.out j hj
        have ht := HTN.out k hk
        have HE : Hid (tn xs (bds n xs) (k + 1) = tn xs (bds n xs) k + (xs.getD j 0 - xs.getD i 0)) := Lib.hid (by
          have e2 : (bds n xs).getD k (0, 0) = ((i : Int), (j : Int)) := hij
          simp only [tn, e2, Int.toNat_natCast])
        simp only [Nat.zero_add, List.getD_cons_zero, List.getD_cons_succ] at e0 e1 l0 l1
        have hii : (i : Int) < (len : Int) := by omega
        have hjj : (j : Int) < (len : Int) := by omega
        have hki : (k : Int) < ((bds n xs).length : Int) := by omega
        clear hr hx hr1 HW hij hrow
        generalize xs.getD i 0 = x at l0 bi HE
        generalize xs.getD j 0 = y at l1 bj HE
        generalize tn xs (bds n xs) k = t at ht HE ⊢
        go_wp2_with fail
        go_quiet (fail)
        go_wp2_with fail
        go_roundw
        case rel => exact ⟨k + 1, by omega, by go_num, by rw [HE.out], below_drewN hb _⟩
        case measure => simp [intOf]; omega
      · have hk2 : k = (bds n xs).length := by omega
        rw [hk2]
        have ht := HTN.out _ (Nat.le_refl _)
        go_wp2_with fail
        go_ret2
        exact ⟨rfl, bnext hb1 hb⟩
end Go.Proofs.Ytjbdhgomcchoaaa
