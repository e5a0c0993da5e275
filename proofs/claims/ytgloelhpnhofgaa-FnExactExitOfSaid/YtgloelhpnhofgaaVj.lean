import Derived.Test.YtgloelhpnhofgaaVe
namespace Go.Proofs.Ytgloelhpnhofgaa
open Go.RowKit
set_option maxRecDepth 4000
/-- Whether a door of the border is this one. -/
def exF (D : Int × Int) (d : Int × Int) : Bool := decide (inner d = D)
theorem ex_same (a b : Int) (D : Int × Int) : (lsI a b == D.1 && gtI a b == D.2) = exF D (a, b) := by
  obtain ⟨c, d⟩ := D
  rw [exF, inner_eq, Bool.eq_iff_iff]
  simp only [Bool.and_eq_true, beq_iff_eq, decide_eq_true_eq, Prod.mk.injEq]
def exO (n : Nat) (xs : List Int) (i j : Int) : Option (Int × Int) := if (wfrom xs n (-1) (inner (i, j))).2.2 then none else (bds n xs).find? (exF (wfrom xs n (-1) (inner (i, j))).2.1)
def okExit (n : Int) (xs : List Int) (i j : Int) : Bool := okW n xs i j && (exO n.toNat xs i j).isSome
def exL (o : Option (Int × Int)) : List Int := match o with | some d => [d.1, d.2] | none => []
def valExit (n : Int) (xs : List Int) (i j : Int) : List Int := if okW n xs i j then exL (exO n.toNat xs i j) else []
theorem valExit_len (n : Int) (xs : List Int) (i j : Int) : (valExit n xs i j).length ≤ 1000 := by
  unfold valExit
  split
  · cases exO n.toNat xs i j <;> simp [exL]
  · simp
theorem gives_nil {w w' : World} {L : List Int} {b : Bool} (hL : L = []) (hb : b = false) (hB : Below w.heap.size w w') : Gives w 3 L b (.returned (.tuple #[.slice none 0 0, .bool false])) w' := by
  subst hL hb
  exact gives_none hB
theorem gives_two {w w' : World} {L : List Int} {b : Bool} {x y : Int} {v : Value} (hL : L = [x, y]) (hb : b = true) (ho : w'.ownsRow w.heap.size 3 1 v 2 ([x, y].map (Value.int .i64))) (hB : Below w.heap.size w w') : Gives w 3 L b (.returned (.tuple #[v, .bool true])) w' := by
  subst hL hb
  exact ⟨v, rfl, ho, hB⟩
set_option maxHeartbeats 1600000 in
theorem specExitOf (n : Int) (xs : List Int) (i j : Int) (a : Option Addr) (b len cap : Nat) (w : World) (hn : xs.length = len) (h : Rd w a b 0 xs) (hb0 : len = 0 ∨ b < w.heap.size) :
    Calls Try.prog 21 #[.int .i64 n, .slice a len cap, .int .i64 i, .int .i64 j] w (Gives w 3 (valExit n xs i j) (okExit n xs i j)) := by
  have HO := Lib.hid (doOutside_any n xs i j a b len cap w hn h hb0)
  cases hok : okW n xs i j
  · have H1 : Hid (valExit n xs i j = [] ∧ okExit n xs i j = false) := Lib.hid (by simp [valExit, okExit, hok])
    rw [hok] at HO
    clear hok h
    go_enter Try.func21, Try.ntmps21
    go_wp2_with fail
    refine HO.out.mono ?_
    rintro e w1 ⟨rfl, hb1⟩
    go_wp2_with fail
    go_ret2
    exact gives_nil H1.out.1 H1.out.2 hb1
  · rw [hok] at HO
    have hok2 := hok
    obtain ⟨n, rfl, hL, hij, hgo, ⟨k, hk⟩, -⟩ := okW_yes hok
    obtain ⟨h1, h2, -⟩ := labB_yes hL
    have hii := inner_inner (i, j) hij
    obtain ⟨pre, l, e1, hl, e2⟩ := wfrom_last hL hgo (by rw [hii]; exact hk)
    have hwl := wfrom_len xs n (-1) (inner (i, j))
    have hbd := ci_bd n h2
    have HV : Hid (valExit n xs i j = exL (exO n xs i j)) := Lib.hid (by simp [valExit, hok2])
    have HK : Hid (okExit n xs i j = (exO n xs i j).isSome) := Lib.hid (by simp [okExit, hok2])
    have HX : Hid (exO n xs i j = if (wfrom xs n (-1) (inner (i, j))).2.2 then none else (bds n xs).find? (exF (wfrom xs n (-1) (inner (i, j))).2.1)) := Lib.hid rfl
    have HRD := Lib.hid (fun w' (hb : Below w.heap.size w w') => h.later hn hb0 hb)
    have HRB := Lib.hid (fun w' (hb : Below w.heap.size w w') => lt_later hb0 hb)
    have HF := Lib.hid (fun w' cap (hb : Below w.heap.size w w') => doFrom_any n xs i j a b len cap w' hL hn (h.later hn hb0 hb) (lt_later hb0 hb) hgo hij)
    have HDB := Lib.hid (fun w' (hb : Below w.heap.size w w') => doBorder_any n xs a b len cap w' hn (h.later hn hb0 hb) (lt_later hb0 hb) hL)
    have HL := Lib.hid hL
    have HN := Lib.hid hn
    have HE := Lib.hid (ci_eq n (by omega) h1)
    have hbl := bds_len n xs
    have HBL := Lib.hid (bds_lst n xs)
    clear hok hok2 h hL hgo hk hn hb0
    generalize exO n xs i j = O at HV HK HX
    generalize (wfrom xs n (-1) (inner (i, j))) = W at e1 e2 hwl HF HX
    obtain ⟨L, D, f⟩ := W
    simp only at e1 e2 hwl HF HX
    subst e1
    have HIL := Lib.hid (ints_lastlen pre l)
    have HLA := Lib.hid (ints_last pre l)
    have hpl : pre.length + 1 ≤ 1000 := by rw [List.length_append] at hwl; simp only [List.length_cons, List.length_nil] at hwl; omega
    have HFU := Lib.hid e2
    have HFS := Lib.hid (fun k hk h => find_step (0, 0) (bds n xs) (exF D) k hk h)
    have HLT := Lib.hid (lst_at (bds n xs))
    have HML : Hid (((bds n xs).map lst).length = (bds n xs).length) := Lib.hid (by simp)
    clear e2 hwl
    generalize bds n xs = ps at HX hbl HBL HFS HLT HML
    go_enter Try.func21, Try.ntmps21
    go_wp2_with fail
    refine HO.out.mono ?_
    rintro e w1 ⟨rfl, hb1⟩
    go_wp2_with fail
    refine (HF.out w1 cap hb1).mono ?_
    rintro e w2 ⟨v, pd, bd, cd, rfl, ho2, hrd2, hbd2, hb2⟩
    have ho2 := own_num ho2 (ints_len (pre ++ [l])).symm
    obtain ⟨-, va, vc, vb, rfl, hvx, hvr⟩ := own_shape ho2
    obtain ⟨rfl, c0⟩ := hvr.2 pre.length (by rw [HIL.out]; omega)
    rw [HLA.out, Nat.zero_add] at c0
    have hvb := own_lt ho2 vb rfl
    have hB2 := bnext hb1 hb2
    have HRD2 := Lib.hid hrd2
    have hsub : IntKind.i64.wrap (((ints (pre ++ [l])).length : Int) - 1) = (pre.length : Int) := by
      rw [HIL.out, IntWalk.i64_in _ ⟨by omega, by omega⟩]
      omega
    have hpi : (pre.length : Int) < ((ints (pre ++ [l])).length : Int) := by rw [HIL.out]; omega
    have hli : (l : Int) < ((ci n).length : Int) := by omega
    have hil2 : ((ints (pre ++ [l])).length : Int) ≤ 1000 := by rw [HIL.out]; omega
    clear hb1 hb2 hvr hvx hrd2
    go_wp2_with fail
    refine wp_region_mix (fun w' => Below w2.heap.size w2 w') [2, 10, 11] [0, 1, 3, 4, 5, 6, 7, 8, 2, 9, 10, 11] (by kernel_rfl) (by kernel_rfl) (fun _ _ d _ _ h => by cases d <;> exact h) (by kernel_rfl) rfl (Below.refl _ _).drew ?_
    refine mix_take 0 _ ?_ rfl rfl rfl (some 28) rfl (fun w' hw' => ?hv0) ?_
    case hv0 =>
      go_simp
      with_reducible rfl
    simp only [Act.put, List.setIfInBounds_toArray, List.set_cons_zero, List.set_cons_succ]
    refine mix_take 1 _ ?_ rfl rfl rfl (some 29) rfl (fun w' hw' => ?hv1) ?_
    case hv1 =>
      go_simp
      with_reducible rfl
    simp only [Act.put, List.setIfInBounds_toArray, List.set_cons_zero, List.set_cons_succ]
    refine mix_take 3 _ ?_ rfl rfl rfl (some 31) rfl (fun w' hw' => ?hv3) ?_
    case hv3 =>
      go_simp
      with_reducible rfl
    simp only [Act.put, List.setIfInBounds_toArray, List.set_cons_zero, List.set_cons_succ]
    refine mix_take 4 _ ?_ rfl rfl rfl (some 32) rfl (fun w' hw' => ?hv4) ?_
    case hv4 =>
      go_simp
      with_reducible rfl
    simp only [Act.put, List.setIfInBounds_toArray, List.set_cons_zero, List.set_cons_succ]
    refine mix_take 5 _ ?_ rfl rfl rfl (some 33) rfl (fun w' hw' => ?hv5) ?_
    case hv5 =>
      go_simp
      with_reducible rfl
    simp only [Act.put, List.setIfInBounds_toArray, List.set_cons_zero, List.set_cons_succ]
    refine mix_take 6 _ ?_ rfl rfl rfl (some 34) rfl (fun w' hw' => ?hv6) ?_
    case hv6 =>
      go_simp
      with_reducible rfl
    simp only [Act.put, List.setIfInBounds_toArray, List.set_cons_zero, List.set_cons_succ]
    refine mix_take 7 _ ?_ rfl rfl rfl (some 35) rfl (fun w' hw' => ?hv7) ?_
    case hv7 =>
      go_simp
      with_reducible rfl
    simp only [Act.put, List.setIfInBounds_toArray, List.set_cons_zero, List.set_cons_succ]
    refine mix_take 8 _ ?_ rfl rfl rfl (some 36) rfl (fun w' hw' => ?hv8) ?_
    case hv8 =>
      have c0 := (Below.cell (p := ⟨vb, pre.length, none⟩) hw' hvb).trans c0
      go_simp
      with_reducible rfl
    simp only [Act.put, List.setIfInBounds_toArray, List.set_cons_zero, List.set_cons_succ]
    refine mix_call 2 _ rfl rfl rfl 51 #[.int .i64 n] (some 30) rfl ?hr2 ?_
    case hr2 => go_simp
    refine (meCells_any n h1 h2 _).mono ?_
    rintro e w3 ⟨v, rfl, hc, hb3⟩
    rw [← HE.out] at hc
    obtain ⟨sa, sm, sc, rfl⟩ := cells_shape hc
    obtain ⟨rfl, g, ra, rc, rb, rfl, c1, hr1, hrb1, -, -⟩ := spec_cell3 h2 hc hl
    have hB3 : Below w2.heap.size w2 w3 := (Below.refl _ _).drew.trans hb3
    refine ⟨_, rfl, hB3, ?_⟩
    simp only [Act.put, List.setIfInBounds_toArray, List.set_cons_zero, List.set_cons_succ]
    refine mix_take 9 _ ?_ rfl rfl rfl (some 37) rfl (fun w' hw' => ?hv9) ?_
    case hv9 =>
      go_simp
      with_reducible rfl
    simp only [Act.put, List.setIfInBounds_toArray, List.set_cons_zero, List.set_cons_succ]
    refine mix_val 10 _ ?_ rfl rfl rfl (some 38) rfl ?hv10 ⟨hB3, ?_⟩
    case hv10 =>
      go_simp
      with_reducible rfl
    simp only [Act.put, List.setIfInBounds_toArray, List.set_cons_zero, List.set_cons_succ]
    refine mix_call 11 _ rfl rfl rfl 50 #[.slice a len cap, .slice ra 3 rc] (some 39) rfl ?hr11 ?_
    case hr11 => go_simp
    have hB03 := bnext hB2 hB3
    refine (doFull_go n l xs a ra b rb len cap rc w3 HL.out hl HN.out (HRD.out w3 hB03) hr1).mono ?_
    rintro e w4 ⟨rfl, rfl⟩
    rw [HFU.out]
    refine ⟨_, rfl, hB3, ?_⟩
    simp only [Act.put, List.setIfInBounds_toArray, List.set_cons_zero, List.set_cons_succ]
    refine mix_done ?_
    have hrd3 := Lib.hid (HRD2.out.below hB3 (.inr hbd2))
    have hbd3 : bd < w3.heap.size := by have := hB3.size; omega
    clear c0 c1 hr1 hrb1 hc hb3 ho2 hB2 hB3
    cases f
    · have HX2 : Hid (O = ps.find? (exF D)) := Lib.hid (by have := HX.out; simpa using this)
      go_wp2_with fail
      refine (HDB.out w3 hB03).mono ?_
      rintro e w4 ⟨v, rfl, hc4, hb4⟩
      rw [HBL.out] at hc4
      obtain ⟨sa, sm, sc, rfl⟩ := cells_shape hc4
      obtain ⟨rfl, -, hrows⟩ := cells_row hc4
      have HRW := Lib.hid hrows
      have hB04 := bnext hB03 hb4
      have hrd4 := Lib.hid (hrd3.out.below hb4 (.inr hbd3))
      have hbd4 : bd < w4.heap.size := by have := hb4.size; omega
      have hle3 := hB03.size
      clear hrows hc4 hb4 hrd3
      rw [HML.out]
      go_wp2_with fail
      go_loopw [44] (fun v44 wr => ∃ k : Nat, k ≤ ps.length ∧ v44 = .int .i64 k ∧ Hid ((ps.take k).find? (exF D) = none) ∧ Below w4.heap.size w4 wr) (fun v44 _ => ps.length - (intOf v44).toNat)
      case atStart => exact ⟨0, Nat.zero_le _, rfl, Lib.hid (by simp), Below.refl _ _⟩
      case round =>
        obtain ⟨k, hk, rfl, hf, hb⟩ := hrel
        by_cases hlt : k < ps.length
        · obtain ⟨g, qa, qc, qb, rfl, -, hgl, c, hqx, hqr, hqo, -⟩ := HRW.out k (by rw [HML.out]; exact hlt)
          rw [HLT.out k hlt] at c hqr hqo
          have c := (hb.cell (p := ⟨g, k, none⟩) hgl).trans c
          have hqr := hqr.below hb (hqx.imp_right fun h => h.2.1)
          have hqo := own_now hqo hb
          have HS := Lib.hid (HFS.out k hlt hf.out)
          have hki : (k : Int) < (ps.length : Int) := by omega
          have hz := hb.size
          have hqb : qb < wr.heap.size := by
            rcases hqx with h | ⟨-, h3, -⟩
            · have := (hqr.2 0 (by simp)).1
              rw [h] at this
              cases this
            · omega
          clear hqx hf
          generalize ps.getD k (0, 0) = p at c hqr HS hqo
          obtain ⟨p1, p2⟩ := p
          simp only at c hqr hqo
          obtain ⟨rfl, c0⟩ := hqr.2 0 (by simp)
          have c1 := (hqr.2 1 (by simp)).2
          rw [Nat.zero_add] at c0 c1
          simp only [List.getD_cons_zero, List.getD_cons_succ] at c0 c1
          have HLG := Lib.hid (ex_same p1 p2 D)
          have hrdw := Lib.hid (hrd4.out.below hb (.inr hbd4))
          have hbdw : bd < wr.heap.size := by omega
          obtain ⟨wi, hwi⟩ : ∃ wi : World, wi = wr := ⟨_, rfl⟩
          subst hwi
          clear hqr
          go_wp2_with fail
          refine wp_region_mix (fun w' => Below wi.heap.size wi w') [6, 8] [0, 1, 2, 3, 4, 5, 7, 6, 8] (by kernel_rfl) (by kernel_rfl) (fun _ _ d _ _ h => by cases d <;> exact h) (by kernel_rfl) rfl (Below.refl _ _).drew ?_
          refine mix_take 0 _ ?_ rfl rfl rfl (some 48) rfl (fun w' hw' => ?hv0) ?_
          case hv0 =>
            go_simp
            with_reducible rfl
          simp only [Act.put, List.setIfInBounds_toArray, List.set_cons_zero, List.set_cons_succ]
          refine mix_take 1 _ ?_ rfl rfl rfl (some 49) rfl (fun w' hw' => ?hv1) ?_
          case hv1 =>
            go_simp
            with_reducible rfl
          simp only [Act.put, List.setIfInBounds_toArray, List.set_cons_zero, List.set_cons_succ]
          refine mix_take 2 _ ?_ rfl rfl rfl (some 50) rfl (fun w' hw' => ?hv2) ?_
          case hv2 =>
            have c0 := (Below.cell (p := ⟨qb, 0, none⟩) hw' hqb).trans c0
            have c1 := (Below.cell (p := ⟨qb, 1, none⟩) hw' hqb).trans c1
            go_simp
            with_reducible rfl
          simp only [Act.put, List.setIfInBounds_toArray, List.set_cons_zero, List.set_cons_succ]
          refine mix_take 3 _ ?_ rfl rfl rfl (some 51) rfl (fun w' hw' => ?hv3) ?_
          case hv3 =>
            go_simp
            with_reducible rfl
          simp only [Act.put, List.setIfInBounds_toArray, List.set_cons_zero, List.set_cons_succ]
          refine mix_take 4 _ ?_ rfl rfl rfl (some 52) rfl (fun w' hw' => ?hv4) ?_
          case hv4 =>
            go_simp
            with_reducible rfl
          simp only [Act.put, List.setIfInBounds_toArray, List.set_cons_zero, List.set_cons_succ]
          refine mix_take 5 _ ?_ rfl rfl rfl (some 53) rfl (fun w' hw' => ?hv5) ?_
          case hv5 =>
            have c0 := (Below.cell (p := ⟨qb, 0, none⟩) hw' hqb).trans c0
            have c1 := (Below.cell (p := ⟨qb, 1, none⟩) hw' hqb).trans c1
            go_simp
            with_reducible rfl
          simp only [Act.put, List.setIfInBounds_toArray, List.set_cons_zero, List.set_cons_succ]
          refine mix_take 7 _ ?_ rfl rfl rfl (some 55) rfl (fun w' hw' => ?hv7) ?_
          case hv7 =>
            go_simp
            with_reducible rfl
          simp only [Act.put, List.setIfInBounds_toArray, List.set_cons_zero, List.set_cons_succ]
          refine mix_call 6 _ rfl rfl rfl 56 #[.int .i64 p1, .int .i64 p2] (some 54) rfl ?hr6 ?_
          case hr6 => go_simp
          refine (doInner_any p1 p2 _).mono ?_
          rintro e w5 ⟨rfl, rfl⟩
          have hB5 : Below wi.heap.size wi (wi.drew.alloc (.cells #[.int .i64 (lsI p1 p2), .int .i64 (gtI p1 p2)] 3)) := (Below.refl _ _).drew.alloc (Nat.le_refl _) _
          have hg5 := heap_alloc_new wi.drew (.cells #[.int .i64 (lsI p1 p2), .int .i64 (gtI p1 p2)] 3)
          generalize wi.drew.alloc (.cells #[.int .i64 (lsI p1 p2), .int .i64 (gtI p1 p2)] 3) = w6 at hB5 hg5 ⊢
          refine ⟨_, rfl, hB5, ?_⟩
          simp only [Act.put, List.setIfInBounds_toArray, List.set_cons_zero, List.set_cons_succ]
          refine mix_call 8 _ rfl rfl rfl 55 #[.slice (some ⟨wi.drew.heap.size, 0, none⟩) 2 2, .slice pd 2 cd] (some 56) rfl ?hr8 ?_
          case hr8 => go_simp
          refine (l1Same2_any _ _ D.1 D.2 _ pd _ bd 2 cd w6 (rd2 hg5) (hrdw.out.below hB5 (.inr hbdw))).mono ?_
          rintro e w7 ⟨rfl, m, rfl⟩
          rw [HLG.out]
          have hB7 := below_drewN hB5 m
          refine ⟨_, rfl, hB7, ?_⟩
          simp only [Act.put, List.setIfInBounds_toArray, List.set_cons_zero, List.set_cons_succ]
          refine mix_done ?_
          have hB8 := hb.trans (hB7.mono hz)
          have hqo8 := own_now hqo hB7
          clear hg5 hB5 hB7 hb c c0 c1 hqo
          generalize w6.drewN m = w8 at hB8 hqo8 ⊢
          cases hsm : exF D (p1, p2)
          · have e := Lib.hid (HS.out.2 (by simp only [hsm]))
            clear hsm
            go_wp2_with fail
            go_roundw
            case rel => exact ⟨k + 1, by omega, by go_num, e, hB8⟩
            case measure => simp [intOf]; omega
          · have e := Lib.hid (HS.out.1 (by simp only [hsm]))
            clear hsm
            go_wp2_with fail
            go_ret2
            exact gives_two (by rw [HV.out, HX2.out, e.out]; rfl) (by rw [HK.out, HX2.out, e.out]; rfl) (own_base hqo8 hle3) (bnext hB04 hB8)
        · have e : Hid (ps.find? (exF D) = none) := by
            have := hf.out
            rwa [show k = ps.length by omega, List.take_length] at this
          go_wp2_with fail
          go_ret2
          exact gives_nil (by rw [HV.out, HX2.out, e.out]; rfl) (by rw [HK.out, HX2.out, e.out]; rfl) (bnext hB04 hb)
    · have HX2 : Hid (O = none) := Lib.hid (by have := HX.out; simpa using this)
      go_wp2_with fail
      go_ret2
      exact gives_nil (by rw [HV.out, HX2.out]; rfl) (by rw [HK.out, HX2.out]; rfl) hB03
end Go.Proofs.Ytgloelhpnhofgaa
