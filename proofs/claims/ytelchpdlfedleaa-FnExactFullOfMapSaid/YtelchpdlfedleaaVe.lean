import Derived.Test.YtelchpdlfedleaaVd
import Derived.Test.YtelchpdlfedleaaGe
namespace Go.Proofs.Ytelchpdlfedleaa
open Go.RowKit
set_option maxRecDepth 4000
def lastN (L : List Nat) : Nat := L.getLast?.getD 0
theorem lastN_app (pre : List Nat) (l : Nat) : lastN (pre ++ [l]) = l := by simp [lastN]
/-- Whether the walk from a door of the border ends in a full room. -/
def ffF (xs : List Int) (n : Nat) (d : Int × Int) : Bool := (wfrom xs n (-1) d).2.2
def okFindFull (n : Int) (xs : List Int) : Bool := labB n xs && ((bds n.toNat xs).find? (ffF xs n.toNat)).isSome
def lastI (xs : List Int) (n : Nat) (o : Option (Int × Int)) : Int := match o with | some d => lastN (wfrom xs n (-1) d).1 | none => 0
def valFindFull (n : Int) (xs : List Int) : Int := if labB n xs then lastI xs n.toNat ((bds n.toNat xs).find? (ffF xs n.toNat)) else 0
theorem goes_inner {xs : List Int} {n : Nat} {fr : Int} {p : Int × Int} (h : Goes xs n fr p) : Goes xs n fr (inner p) := by
  have hii := inner_inner p h.1
  refine ⟨?_, fun k hk => ?_⟩
  · have := inner_lt h.1
    omega
  · rw [hii] at hk ⊢
    exact h.2 k hk
theorem ret_iv {x y : Int} {b : Bool} (h : x = y) (hb : b = true) : Ending.returned (.tuple #[.int .i64 x, .bool true]) = .returned (.tuple #[.int .i64 y, .bool b]) := by rw [h, hb]
theorem ret_in {y : Int} {b : Bool} (h : y = 0) (hb : b = false) : Ending.returned (.tuple #[.int .i64 0, .bool false]) = .returned (.tuple #[.int .i64 y, .bool b]) := by rw [h, hb]
set_option maxHeartbeats 1600000 in
theorem specFindFull (n : Int) (xs : List Int) (a : Option Addr) (b len cap : Nat) (w : World) (hn : xs.length = len) (h : Rd w a b 0 xs) (hb0 : len = 0 ∨ b < w.heap.size) :
    Calls Try.prog 53 #[.int .i64 n, .slice a len cap] w fun e w' => e = .returned (.tuple #[.int .i64 (valFindFull n xs), .bool (okFindFull n xs)]) ∧ Below w.heap.size w w' := by
  have HM := Lib.hid (meLabels_any n xs a b 0 len cap w hn h)
  cases hL : labB n xs
  · have H1 : Hid (valFindFull n xs = 0 ∧ okFindFull n xs = false) := Lib.hid (by simp [valFindFull, okFindFull, hL])
    rw [hL] at HM
    clear hL h
    go_enter Try.func53, Try.ntmps53
    go_wp2_with fail
    refine HM.out.mono ?_
    rintro e w1 ⟨rfl, rfl⟩
    go_wp2_with fail
    go_ret2
    exact ⟨ret_in H1.out.1 H1.out.2, Below.refl _ _⟩
  · obtain ⟨n, rfl⟩ := labB_nat hL
    rw [hL] at HM
    obtain ⟨h1, h2, -⟩ := labB_yes hL
    have H1 : Hid (valFindFull n xs = lastI xs n ((bds n xs).find? (ffF xs n)) ∧ okFindFull n xs = ((bds n xs).find? (ffF xs n)).isSome) := Lib.hid (by simp [valFindFull, okFindFull, hL])
    have HD := Lib.hid (fun w' (hb : Below w.heap.size w w') => doBorder_any n xs a b len cap w' hn (h.later hn hb0 hb) (lt_later hb0 hb) hL)
    have HRD := Lib.hid (fun w' (hb : Below w.heap.size w w') => h.later hn hb0 hb)
    have HRB := Lib.hid (fun w' (hb : Below w.heap.size w w') => lt_later hb0 hb)
    have HFS := Lib.hid (fun k hk h => find_step (0, 0) (bds n xs) (ffF xs n) k hk h)
    have hbl := bds_len n xs
    have HBL := Lib.hid (bds_lst n xs)
    have HLA := Lib.hid (lst_at (bds n xs))
    have HML : Hid (((bds n xs).map lst).length = (bds n xs).length) := Lib.hid (by simp)
    have HG := Lib.hid (fun k (hk : k < (bds n xs).length) => goes_border hL (find_mem (bds n xs) (0, 0) k hk))
    have HL := Lib.hid hL
    have HN := Lib.hid hn
    have HE := Lib.hid (ci_eq n (by omega) h1)
    have hbd := ci_bd n h2
    clear hL h hn hb0
    generalize bds n xs = ps at H1 HFS hbl HBL HLA HML HG
    go_enter Try.func53, Try.ntmps53
    go_wp2_with fail
    refine HM.out.mono ?_
    rintro e w1 ⟨rfl, rfl⟩
    go_wp2_with fail
    refine (meCells_any n h1 h2 _).mono ?_
    rintro e w1 ⟨v, rfl, hc, hb1⟩
    rw [← HE.out] at hc
    obtain ⟨ca, cm, cc, rfl⟩ := cells_shape hc
    obtain ⟨rfl, -⟩ := cells_row hc
    go_wp2_with fail
    refine (HD.out w1 hb1).mono ?_
    rintro e w2 ⟨v, rfl, hc2, hb2⟩
    rw [HBL.out] at hc2
    obtain ⟨sa, sm, sc, rfl⟩ := cells_shape hc2
    obtain ⟨rfl, -, hrows⟩ := cells_row hc2
    have HRW := Lib.hid hrows
    have hB2 := bnext hb1 hb2
    have HC := Lib.hid (cells_now hc hb2)
    clear hrows hc2 HM HD hc hb1 hb2
    rw [HML.out]
    go_wp2_with fail
    go_loopw [22] (fun v22 wr => ∃ k : Nat, k ≤ ps.length ∧ v22 = .int .i64 k ∧ Hid ((ps.take k).find? (ffF xs n) = none) ∧ Below w2.heap.size w2 wr) (fun v22 _ => ps.length - (intOf v22).toNat)
    case atStart => exact ⟨0, Nat.zero_le _, rfl, Lib.hid (by simp), Below.refl _ _⟩
    case round =>
      obtain ⟨k, hk, rfl, hf, hb⟩ := hrel
      by_cases hlt : k < ps.length
      · obtain ⟨g, qa, qc, qb, rfl, -, hgl, c, hqx, hqr, -, -⟩ := HRW.out k (by rw [HML.out]; exact hlt)
        rw [HLA.out k hlt] at c hqr
        have c := (hb.cell (p := ⟨g, k, none⟩) hgl).trans c
        have hqr := hqr.below hb (hqx.imp_right fun h => h.2.1)
        have HS := Lib.hid (HFS.out k hlt hf.out)
        obtain ⟨hgo, k0, hk0⟩ := HG.out k hlt
        obtain ⟨pre, l, e1, hl, e2⟩ := wfrom_last HL.out hgo hk0
        have hwl := wfrom_len xs n (-1) (ps.getD k (0, 0))
        have hki : (k : Int) < (ps.length : Int) := by omega
        have hz := hb.size
        have hqb : qb < wr.heap.size := by
          rcases hqx with h | ⟨-, h3, -⟩
          · have := (hqr.2 0 (by simp)).1
            rw [h] at this
            cases this
          · omega
        clear hqx hf hk0
        have HGO := Lib.hid hgo
        have HW2 := Lib.hid (wfrom_inner xs n (-1) (p := inner (ps.getD k (0, 0))) (q := ps.getD k (0, 0)) (inner_inner _ hgo.1))
        have HFF : Hid (ffF xs n (ps.getD k (0, 0)) = (wfrom xs n (-1) (ps.getD k (0, 0))).2.2) := Lib.hid rfl
        clear hgo
        generalize ps.getD k (0, 0) = p at c hqr HS HGO HW2 HFF e1 e2 hwl
        have HLI : Hid (lastI xs n (some p) = (lastN (wfrom xs n (-1) p).1 : Int)) := Lib.hid rfl
        obtain ⟨p1, p2⟩ := p
        generalize wfrom xs n (-1) (p1, p2) = W at HW2 HFF e1 e2 hwl HLI
        obtain ⟨L, D, f⟩ := W
        simp only at e1 e2 hwl c hqr
        subst e1
        have HIL := Lib.hid (ints_lastlen pre l)
        have HLL := Lib.hid (ints_last pre l)
        have hpl : pre.length + 1 ≤ 1000 := by rw [List.length_append] at hwl; simp only [List.length_cons, List.length_nil] at hwl; omega
        have HFU := Lib.hid e2
        obtain ⟨rfl, c0⟩ := hqr.2 0 (by simp)
        have c1 := (hqr.2 1 (by simp)).2
        rw [Nat.zero_add] at c0 c1
        simp only [List.getD_cons_zero, List.getD_cons_succ] at c0 c1
        obtain ⟨wi, hwi⟩ : ∃ wi : World, wi = wr := ⟨_, rfl⟩
        subst hwi
        clear hqr e2 hwl
        go_wp2_with fail
        refine wp_region_mix (fun w' => Below wi.heap.size wi w') [8] [0, 1, 2, 3, 4, 5, 6, 7, 8, 9, 10, 11, 12, 13] (by kernel_rfl) (by kernel_rfl) (fun _ _ d _ _ h => by cases d <;> exact h) (by kernel_rfl) rfl (Below.refl _ _).drew ?_
        refine mix_take 0 _ ?_ rfl rfl rfl (some 27) rfl (fun w' hw' => ?hv0) ?_
        case hv0 =>
          go_simp
          with_reducible rfl
        simp only [Act.put, List.setIfInBounds_toArray, List.set_cons_zero, List.set_cons_succ]
        refine mix_take 1 _ ?_ rfl rfl rfl (some 28) rfl (fun w' hw' => ?hv1) ?_
        case hv1 =>
          go_simp
          with_reducible rfl
        simp only [Act.put, List.setIfInBounds_toArray, List.set_cons_zero, List.set_cons_succ]
        refine mix_take 2 _ ?_ rfl rfl rfl (some 29) rfl (fun w' hw' => ?hv2) ?_
        case hv2 =>
          go_simp
          with_reducible rfl
        simp only [Act.put, List.setIfInBounds_toArray, List.set_cons_zero, List.set_cons_succ]
        refine mix_take 3 _ ?_ rfl rfl rfl (some 30) rfl (fun w' hw' => ?hv3) ?_
        case hv3 =>
          go_simp
          with_reducible rfl
        simp only [Act.put, List.setIfInBounds_toArray, List.set_cons_zero, List.set_cons_succ]
        refine mix_take 4 _ ?_ rfl rfl rfl (some 31) rfl (fun w' hw' => ?hv4) ?_
        case hv4 =>
          have c0 := (Below.cell (p := ⟨qb, 0, none⟩) hw' hqb).trans c0
          have c1 := (Below.cell (p := ⟨qb, 1, none⟩) hw' hqb).trans c1
          go_simp
          with_reducible rfl
        simp only [Act.put, List.setIfInBounds_toArray, List.set_cons_zero, List.set_cons_succ]
        refine mix_take 5 _ ?_ rfl rfl rfl (some 32) rfl (fun w' hw' => ?hv5) ?_
        case hv5 =>
          go_simp
          with_reducible rfl
        simp only [Act.put, List.setIfInBounds_toArray, List.set_cons_zero, List.set_cons_succ]
        refine mix_take 6 _ ?_ rfl rfl rfl (some 33) rfl (fun w' hw' => ?hv6) ?_
        case hv6 =>
          go_simp
          with_reducible rfl
        simp only [Act.put, List.setIfInBounds_toArray, List.set_cons_zero, List.set_cons_succ]
        refine mix_take 7 _ ?_ rfl rfl rfl (some 34) rfl (fun w' hw' => ?hv7) ?_
        case hv7 =>
          have c0 := (Below.cell (p := ⟨qb, 0, none⟩) hw' hqb).trans c0
          have c1 := (Below.cell (p := ⟨qb, 1, none⟩) hw' hqb).trans c1
          go_simp
          with_reducible rfl
        simp only [Act.put, List.setIfInBounds_toArray, List.set_cons_zero, List.set_cons_succ]
        refine mix_call 8 _ rfl rfl rfl 94 #[.int .i64 n, .slice a len cap, .int .i64 p1, .int .i64 p2] (some 35) rfl ?hr8 ?_
        case hr8 => go_simp
        have hBw : Below w.heap.size w wi.drew := (bnext hB2 hb).drew
        refine (doFrom_any n xs p1 p2 a b len cap wi.drew HL.out HN.out (HRD.out _ hBw) (HRB.out _ hBw) (goes_inner HGO.out) HGO.out.1).mono ?_
        rw [HW2.out]
        rintro e w3 ⟨v, pd, bd, cd, rfl, ho3, -, -, hb3⟩
        have ho3 := own_num ho3 (ints_len (pre ++ [l])).symm
        obtain ⟨-, va, vc, vb, rfl, hvx, hvr⟩ := own_shape ho3
        obtain ⟨rfl, c3⟩ := hvr.2 pre.length (by rw [HIL.out]; omega)
        rw [HLL.out, Nat.zero_add] at c3
        have hB3 : Below wi.heap.size wi w3 := (Below.refl _ _).drew.trans hb3
        refine ⟨_, rfl, hB3, ?_⟩
        simp only [Act.put, List.setIfInBounds_toArray, List.set_cons_zero, List.set_cons_succ]
        refine mix_take 9 _ ?_ rfl rfl rfl (some 26) rfl (fun w' hw' => ?hv9) ?_
        case hv9 =>
          go_simp
          with_reducible rfl
        simp only [Act.put, List.setIfInBounds_toArray, List.set_cons_zero, List.set_cons_succ]
        refine mix_take 10 _ ?_ rfl rfl rfl (some 36) rfl (fun w' hw' => ?hv10) ?_
        case hv10 =>
          go_simp
          with_reducible rfl
        simp only [Act.put, List.setIfInBounds_toArray, List.set_cons_zero, List.set_cons_succ]
        refine mix_take 11 _ ?_ rfl rfl rfl (some 37) rfl (fun w' hw' => ?hv11) ?_
        case hv11 =>
          go_simp
          with_reducible rfl
        simp only [Act.put, List.setIfInBounds_toArray, List.set_cons_zero, List.set_cons_succ]
        refine mix_take 12 _ ?_ rfl rfl rfl (some 9) rfl (fun w' hw' => ?hv12) ?_
        case hv12 =>
          go_simp
          with_reducible rfl
        simp only [Act.put, List.setIfInBounds_toArray, List.set_cons_zero, List.set_cons_succ]
        refine mix_take 13 _ ?_ rfl rfl rfl (some 10) rfl (fun w' hw' => ?hv13) ?_
        case hv13 =>
          go_simp
          with_reducible rfl
        simp only [Act.put, List.setIfInBounds_toArray, List.set_cons_zero, List.set_cons_succ]
        refine mix_done ?_
        have hB23 := hb.trans (hB3.mono hz)
        have hB03 := bnext hB2 hB23
        obtain ⟨-, rg, ra, rc, rb, rfl, c4, hr4, -⟩ := spec_cell3 h2 (cells_now HC.out hB23) hl
        have hsub : wrap64 (((ints (pre ++ [l])).length : Int) - 1) = (pre.length : Int) := by
          rw [HIL.out, IntWalk.wrap64_in _ ⟨by omega, by omega⟩]
          omega
        have hpi : (pre.length : Int) < ((ints (pre ++ [l])).length : Int) := by rw [HIL.out]; omega
        have hli : (l : Int) < ((ci n).length : Int) := by omega
        clear hb hB3 hb3 ho3 hvr hvx c c0 c1 hBw
        go_wp2_with fail
        refine (doFull_go n l xs a ra b rb len cap rc w3 HL.out hl HN.out (HRD.out w3 hB03) hr4).mono ?_
        rintro e w4 ⟨rfl, rfl⟩
        rw [HFU.out]
        cases f
        · have e := Lib.hid (HS.out.2 HFF.out)
          go_wp2_with fail
          go_roundw
          case rel => exact ⟨k + 1, by omega, by go_num, e, hB23⟩
          case measure => simp [intOf]; omega
        · have e := Lib.hid (HS.out.1 HFF.out)
          go_wp2_with fail
          go_ret2
          exact ⟨ret_iv (by rw [H1.out.1, e.out, HLI.out, lastN_app]) (by rw [H1.out.2, e.out]; rfl), hB03⟩
      · have e : Hid (ps.find? (ffF xs n) = none) := by
          have := hf.out
          rwa [show k = ps.length by omega, List.take_length] at this
        go_wp2_with fail
        go_ret2
        exact ⟨ret_in (by rw [H1.out.1, e.out]; rfl) (by rw [H1.out.2, e.out]; rfl), bnext hB2 hb⟩
end Go.Proofs.Ytelchpdlfedleaa
