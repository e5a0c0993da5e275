import Derived.Test.YtgloelhpnhofgaaVe
namespace Go.Proofs.Ytgloelhpnhofgaa
open Go.RowKit
set_option maxRecDepth 4000
section
variable {P : Program} {ops : Array Oper} {S : World → Prop} {Q : Exit → Act → World → Prop}
/-- An operation whose guard does not want it. -/
theorem mix_skip {sole rest : List Nat} {a : Act} {w : World} (i : Nat) (o : Oper) (hi : sole.contains i = false) (ho : ops[i]? = some o) (hw : Region.wanted o (yielded ops a.tmps) = false) (d : Option Tmp) (hd : o.dst = d)
    (h : wpMix P ops S Q sole rest (a.put d undef) w) : wpMix P ops S Q sole (i :: rest) a w := by
  subst hd
  unfold wpMix
  rw [hi]
  exact ⟨o, undef, ho, .inr ⟨hw, rfl⟩, h⟩
theorem mix_skips {sole rest : List Nat} {a : Act} {w : World} (i : Nat) (o : Oper) (hi : sole.contains i = true) (ho : ops[i]? = some o) (hw : Region.wanted o (yielded ops a.tmps) = false) (d : Option Tmp) (hd : o.dst = d) (hS : S w)
    (h : wpMix P ops S Q sole rest (a.put d undef) w) : wpMix P ops S Q sole (i :: rest) a w := by
  subst hd
  refine mix_sole i o hi ho (fun K' hK => ?_)
  rw [if_neg (by rw [hw]; simp)]
  exact hK _ _ ⟨hS, h⟩
end
/-- The door of a full room, and the walk out of it. -/
def dF (xs : List Int) (n k : Nat) : Int × Int := (dcell xs n k).getD 0 (0, 0)
def wF (xs : List Int) (n k : Nat) : List Nat × (Int × Int) × Bool := wfrom xs n k (dF xs n k)
theorem full_door {xs : List Int} {n k : Nat} (hL : labB n xs = true) (hk : k < (ci n).length) (hf : fullB xs n k = true) : dcell xs n k = [dF xs n k] ∧ Goes xs n k (dF xs n k) ∧ (dF xs n k).1 < (dF xs n k).2 := by
  obtain ⟨h1, h2, -⟩ := labB_yes hL
  rcases dcell_cases n k xs hL hk with ⟨-, p, hp⟩ | ⟨h, -⟩
  · have e : dF xs n k = p := by rw [dF, hp]; rfl
    rw [e]
    have hm := (mem_dcell.1 (by rw [hp]; simp : p ∈ dcell xs n k)).1
    exact ⟨hp, goes_full hL hk hp, cpairs_sorted h2 hk hm⟩
  · rw [hf] at h
    cases h
theorem wF_last {xs : List Int} {n k : Nat} (hL : labB n xs = true) (hk : k < (ci n).length) (hf : fullB xs n k = true) :
    (wF xs n k).1 = [] ∧ (wF xs n k).2.2 = false ∨ ∃ pre l, (wF xs n k).1 = pre ++ [l] ∧ l < (ci n).length ∧ fullB xs n l = (wF xs n k).2.2 := by
  obtain ⟨-, hg, -⟩ := full_door hL hk hf
  cases ha : acrossI n k (inner (dF xs n k)) with
  | none => exact .inl (by simp [wF, wfrom, ha])
  | some q => exact .inr (wfrom_last hL hg ha)
set_option maxHeartbeats 1600000 in
theorem doPartner_any (n k : Nat) (xs : List Int) (a : Option Addr) (b len cap : Nat) (w : World) (hL : labB n xs = true) (hk : k < (ci n).length) (hf : fullB xs n k = true) (hn : xs.length = len) (h : Rd w a b 0 xs) (hb0 : len = 0 ∨ b < w.heap.size) :
    Calls Try.prog 62 #[.int .i64 n, .slice a len cap, .int .i64 k] w fun e w' => ∃ v, e = .returned v ∧ w'.ownsRow w.heap.size 3 1 v (ints (wF xs n k).1).length ((ints (wF xs n k).1).map (Value.int .i64)) ∧ Below w.heap.size w w' := by
  obtain ⟨h1, h2, -⟩ := labB_yes hL
  obtain ⟨hd1, hd2, hd3⟩ := full_door hL hk hf
  obtain ⟨s0, L, R, hLR, hat⟩ := goes_at hd2
  have hW : Hid ((wF xs n k).1 = L) := Lib.hid (by rw [wF, hLR])
  have HD1 := Lib.hid hd1
  have HL := Lib.hid hL
  have HRD := Lib.hid (fun w' (hb : Below w.heap.size w w') => h.later hn hb0 hb)
  have HRB := Lib.hid (fun w' (hb : Below w.heap.size w w') => lt_later hb0 hb)
  have HN := Lib.hid hn
  have HE := Lib.hid (ci_eq n (by omega) h1)
  have hbd := ci_bd n h2
  have HIN := Lib.hid (inner_sorted hd3)
  rw [hW.out]
  clear hL h hn hb0 hLR hd1 hd2 hf
  generalize dF xs n k = p at HD1 hd3 hat HIN
  obtain ⟨p1, p2⟩ := p
  have HAT := Lib.hid hat
  simp only at hd3
  clear hat
  go_enter Try.func62, Try.ntmps62
  go_wp2_with fail
  refine (meCells_any n h1 h2 _).mono ?_
  rintro e w1 ⟨v, rfl, hc, hb1⟩
  rw [← HE.out] at hc
  obtain ⟨ca, cm, cc, rfl⟩ := cells_shape hc
  obtain ⟨rfl, g, ra, rc, rb, rfl, c1, hr1, hrb1, hrc1, hrc2⟩ := spec_cell3 h2 hc hk
  have hki : (k : Int) < ((ci n).length : Int) := by omega
  go_wp2_with fail
  refine (doOfCell_go n k xs a ra b rb len cap rc w1 HL.out hk HN.out (HRD.out w1 hb1) hr1 (HRB.out w1 hb1) hrb1 hrc1 hrc2).mono ?_
  rintro e w2 ⟨v, rfl, hc2, hb2⟩
  rw [HD1.out] at hc2
  obtain ⟨sa, sm, sc, rfl⟩ := cells_shape hc2
  obtain ⟨rfl, -, hrows⟩ := cells_row hc2
  obtain ⟨rg, qa, qc, qb, rfl, -, hrgl, c2, hqx, hqr, -⟩ := hrows 0 (by simp)
  have hl1 : (List.map lst [(p1, p2)]).length = 1 := rfl
  rw [hl1]
  have hl2 : ((List.map lst [(p1, p2)]).getD 0 []) = [p1, p2] := rfl
  rw [hl2] at c2 hqr
  have hqb : qb < w2.heap.size := by
    rcases hqx with h | ⟨-, h3, -⟩
    · have := (hqr.2 0 (by simp)).1
      rw [h] at this
      cases this
    · exact h3
  have hB2 := bnext hb1 hb2
  have hc' := cells_now hc hb2
  have HQR := Lib.hid hqr
  clear hrows hc2 hqx c1 hr1 hrb1 hb1 hb2 hc hl1 hl2 hqr
  go_wp2_with fail
  refine (doNextT_any n p1 p2 (k : Int) _ qa w.heap.size qb _ _ qc w2 h2 hc' HQR.out hqb (by omega)).mono ?_
  rintro e w3 ⟨rfl, hb3⟩
  have hB3 := bnext hB2 hb3
  have hc3 := cells_now hc' hb3
  have hqr3 := HQR.out.below hb3 (.inr hqb)
  have hqb3 : qb < w3.heap.size := by have := hb3.size; omega
  clear hc' hb3 c2
  go_wp2_with fail
  refine (doWalk_any n xs w.heap.size _ _ cc a b len cap qa qb qc p1 p2 _ s0 L R w3 HL.out hc3 HN.out (HRD.out w3 hB3) (HRB.out w3 hB3) hqr3 hqb3 hd3 HAT.out).mono ?_
  rintro e w4 ⟨v, pd, bd, cd, rfl, ho4, -, -, hb4⟩
  have hle := hB3.size
  go_wp2_with fail
  go_ret
  exact ⟨v, rfl, own_base (own_num ho4 (ints_len L).symm) hle, bnext hB3 hb4⟩
def okPart (n : Int) (xs : List Int) (k : Int) : Bool := okCell n xs k && fullB xs n.toNat k.toNat && (wF xs n.toNat k.toNat).2.2
def valPart (n : Int) (xs : List Int) (k : Int) : Int := if okPart n xs k then lastN (wF xs n.toNat k.toNat).1 else 0
theorem part_no {n k : Int} {xs : List Int} (h : okPart n xs k = false) : valPart n xs k = 0 := by simp [valPart, h]
set_option maxHeartbeats 1600000 in
theorem specPartnerOfFull (n : Int) (xs : List Int) (k : Int) (a : Option Addr) (b len cap : Nat) (w : World) (hn : xs.length = len) (h : Rd w a b 0 xs) (hb0 : len = 0 ∨ b < w.heap.size) :
    Calls Try.prog 25 #[.int .i64 n, .slice a len cap, .int .i64 k] w fun e w' => e = .returned (.tuple #[.int .i64 (valPart n xs k), .bool (okPart n xs k)]) ∧ Below w.heap.size w w' := by
  have HP := Lib.hid (doCell_any n xs k a b len cap w hn h)
  cases hp : okCell n xs k
  · have H0 : okPart n xs k = false := by simp [okPart, hp]
    have H1 : Hid (valPart n xs k = 0 ∧ okPart n xs k = false) := Lib.hid ⟨part_no H0, H0⟩
    rw [hp] at HP
    clear hp h H0
    go_enter Try.func25, Try.ntmps25
    go_wp2_with fail
    refine HP.out.mono ?_
    rintro e w1 ⟨rfl, rfl⟩
    go_wp2_with fail
    go_ret2
    exact ⟨ret_in H1.out.1 H1.out.2, Below.refl _ _⟩
  · rw [hp] at HP
    have hp2 := hp
    obtain ⟨n, k, rfl, rfl, hL, hk⟩ := okCell_yes hp
    obtain ⟨h1, h2, -⟩ := labB_yes hL
    have H0 : okPart n xs k = (fullB xs n k && (wF xs n k).2.2) := by simp [okPart, hp2]
    have HL := Lib.hid hL
    have HRD := Lib.hid (fun w' (hb : Below w.heap.size w w') => h.later hn hb0 hb)
    have HRB := Lib.hid (fun w' (hb : Below w.heap.size w w') => lt_later hb0 hb)
    have HN := Lib.hid hn
    have HE := Lib.hid (ci_eq n (by omega) h1)
    have hbd := ci_bd n h2
    have hki : (k : Int) < ((ci n).length : Int) := by omega
    clear hp hp2 h hn hb0
    cases hf : fullB xs n k
    · have H2 : okPart n xs k = false := by rw [H0, hf]; rfl
      have H1 : Hid (valPart n xs k = 0 ∧ okPart n xs k = false) := Lib.hid ⟨part_no H2, H2⟩
      have HF := Lib.hid hf
      clear H0 H2 hf hL
      go_enter Try.func25, Try.ntmps25
      go_wp2_with fail
      refine HP.out.mono ?_
      rintro e w1 ⟨rfl, rfl⟩
      go_wp2_with fail
      refine (meCells_any n h1 h2 _).mono ?_
      rintro e w2 ⟨v, rfl, hc, hb⟩
      rw [← HE.out] at hc
      obtain ⟨sa, m, sc, rfl⟩ := cells_shape hc
      obtain ⟨rfl, g, ra, rc, rb, rfl, c1, hrd, -⟩ := spec_cell3 h2 hc hk
      go_wp2_with fail
      refine (doFull_go n k xs a ra b rb len cap rc w2 HL.out hk HN.out (HRD.out w2 hb) hrd).mono ?_
      rintro e w3 ⟨rfl, rfl⟩
      rw [HF.out]
      go_wp2_with fail
      go_ret2
      exact ⟨ret_in H1.out.1 H1.out.2, hb⟩
    · have hlast := wF_last hL hk hf
      have HDP := Lib.hid (fun w' (hb : Below w.heap.size w w') => doPartner_any n k xs a b len cap w' hL hk hf HN.out (HRD.out w' hb) (HRB.out w' hb))
      have HF := Lib.hid hf
      have hV : valPart n xs k = if okPart n xs k then (lastN (wF xs n k).1 : Int) else 0 := rfl
      rw [hf, Bool.true_and] at H0
      have HV := Lib.hid hV
      have H1 := Lib.hid H0
      have hwl : (wF xs n k).1.length ≤ (ci n).length := wfrom_len _ _ _ _
      clear H0 hV hf hL
      generalize wF xs n k = W at hlast HDP HV H1 hwl
      obtain ⟨L, D, f⟩ := W
      simp only at hlast hwl
      go_enter Try.func25, Try.ntmps25
      go_wp2_with fail
      refine HP.out.mono ?_
      rintro e w1 ⟨rfl, rfl⟩
      go_wp2_with fail
      refine (meCells_any n h1 h2 _).mono ?_
      rintro e w2 ⟨v, rfl, hc, hb⟩
      rw [← HE.out] at hc
      obtain ⟨sa, m, sc, rfl⟩ := cells_shape hc
      obtain ⟨rfl, g, ra, rc, rb, rfl, c1, hrd, -⟩ := spec_cell3 h2 hc hk
      go_wp2_with fail
      refine (doFull_go n k xs a ra b rb len cap rc w2 HL.out hk HN.out (HRD.out w2 hb) hrd).mono ?_
      rintro e w3 ⟨rfl, rfl⟩
      rw [HF.out]
      clear c1 hrd hc
      go_wp2_with fail
      refine (HDP.out w2 hb).mono ?_
      rintro e w4 ⟨v, rfl, ho4, hb4⟩
      obtain ⟨-, va, vc, vb, rfl, hvx, hvr⟩ := own_shape ho4
      have hB4 := bnext hb hb4
      have hil : Hid ((ints L).length = L.length) := Lib.hid (ints_len L)
      have hil2 : ((ints L).length : Int) ≤ 1000 := by rw [hil.out]; omega
      clear hb hb4
      rcases hlast with ⟨hL0, hf0⟩ | ⟨pre, l, e1, hl, e2⟩
      · have hl0 : Hid ((ints L).length = 0) := Lib.hid (by rw [hL0]; rfl)
        subst hf0
        clear hL0 hvr hvx ho4 hil2
        have hzz : (((ints L).length : Int) == 0) = true := by rw [hl0.out]; rfl
        go_wp2_with fail
        refine wp_region_mix (fun w' => Below w4.heap.size w4 w') [6, 14, 15] [0, 1, 2, 3, 4, 5, 7, 8, 9, 10, 11, 12, 6, 13, 14, 15, 16, 17] (by kernel_rfl) (by kernel_rfl) (fun _ _ d _ _ h => by cases d <;> exact h) (by kernel_rfl) rfl (Below.refl _ _).drew ?_
        refine mix_take 0 _ ?_ rfl rfl rfl (some 28) rfl (fun w' hw' => ?hv0) ?_
        case hv0 =>
          go_simp
          with_reducible rfl
        simp only [Act.put, List.setIfInBounds_toArray, List.set_cons_zero, List.set_cons_succ]
        refine mix_take 1 _ ?_ rfl rfl rfl (some 29) rfl (fun w' hw' => ?hv1) ?_
        case hv1 =>
          go_simp
          with_reducible rfl
        simp only [Act.put, List.setIfInBounds_toArray, List.set_cons_zero, List.set_cons_succ]
        refine mix_take 2 _ ?_ rfl rfl rfl (some 30) rfl (fun w' hw' => ?hv2) ?_
        case hv2 =>
          go_simp
          with_reducible rfl
        simp only [Act.put, List.setIfInBounds_toArray, List.set_cons_zero, List.set_cons_succ]
        refine mix_take 3 _ ?_ rfl rfl rfl (some 31) rfl (fun w' hw' => ?hv3) ?_
        case hv3 =>
          go_simp
          with_reducible rfl
        simp only [Act.put, List.setIfInBounds_toArray, List.set_cons_zero, List.set_cons_succ]
        refine mix_skip 4 _ rfl rfl rfl (some 32) rfl ?_
        simp only [Act.put, List.setIfInBounds_toArray, List.set_cons_zero, List.set_cons_succ]
        refine mix_skip 5 _ rfl rfl rfl (some 33) rfl ?_
        simp only [Act.put, List.setIfInBounds_toArray, List.set_cons_zero, List.set_cons_succ]
        refine mix_skip 7 _ rfl rfl rfl (some 35) rfl ?_
        simp only [Act.put, List.setIfInBounds_toArray, List.set_cons_zero, List.set_cons_succ]
        refine mix_skip 8 _ rfl rfl rfl (some 36) rfl ?_
        simp only [Act.put, List.setIfInBounds_toArray, List.set_cons_zero, List.set_cons_succ]
        refine mix_skip 9 _ rfl rfl rfl (some 37) rfl ?_
        simp only [Act.put, List.setIfInBounds_toArray, List.set_cons_zero, List.set_cons_succ]
        refine mix_skip 10 _ rfl rfl rfl (some 38) rfl ?_
        simp only [Act.put, List.setIfInBounds_toArray, List.set_cons_zero, List.set_cons_succ]
        refine mix_skip 11 _ rfl rfl rfl (some 39) rfl ?_
        simp only [Act.put, List.setIfInBounds_toArray, List.set_cons_zero, List.set_cons_succ]
        refine mix_skip 12 _ rfl rfl rfl (some 40) rfl ?_
        simp only [Act.put, List.setIfInBounds_toArray, List.set_cons_zero, List.set_cons_succ]
        refine mix_skips 6 _ rfl rfl rfl (some 34) rfl (Below.refl _ _).drew ?_
        simp only [Act.put, List.setIfInBounds_toArray, List.set_cons_zero, List.set_cons_succ]
        refine mix_skip 13 _ rfl rfl rfl (some 41) rfl ?_
        simp only [Act.put, List.setIfInBounds_toArray, List.set_cons_zero, List.set_cons_succ]
        refine mix_skips 14 _ rfl rfl rfl (some 42) rfl (Below.refl _ _).drew ?_
        simp only [Act.put, List.setIfInBounds_toArray, List.set_cons_zero, List.set_cons_succ]
        refine mix_skips 15 _ rfl rfl rfl (some 43) rfl (Below.refl _ _).drew ?_
        simp only [Act.put, List.setIfInBounds_toArray, List.set_cons_zero, List.set_cons_succ]
        refine mix_skip 16 _ rfl rfl rfl (some 44) rfl ?_
        simp only [Act.put, List.setIfInBounds_toArray, List.set_cons_zero, List.set_cons_succ]
        refine mix_take 17 _ ?_ rfl rfl rfl (some 45) rfl (fun w' hw' => ?hv17) ?_
        case hv17 =>
          go_simp
          with_reducible rfl
        simp only [Act.put, List.setIfInBounds_toArray, List.set_cons_zero, List.set_cons_succ]
        refine mix_done ?_
        go_wp2_with fail
        go_ret2
        exact ⟨ret_in (by rw [HV.out, H1.out]; rfl) H1.out, hB4.drew⟩
      · subst e1
        have HIL := Lib.hid (ints_lastlen pre l)
        have HLL := Lib.hid (ints_last pre l)
        have HFU := Lib.hid e2
        have hpl : pre.length + 1 ≤ 1000 := by rw [List.length_append] at hwl; simp only [List.length_cons, List.length_nil] at hwl; omega
        obtain ⟨rfl, c0⟩ := hvr.2 pre.length (by rw [HIL.out]; omega)
        rw [HLL.out, Nat.zero_add] at c0
        have hvb := own_lt ho4 vb rfl
        have hzz : (((ints (pre ++ [l])).length : Int) == 0) = false := by rw [HIL.out]; simp; omega
        have hsub : IntKind.i64.wrap (((ints (pre ++ [l])).length : Int) - 1) = (pre.length : Int) := by
          rw [HIL.out, IntWalk.i64_in _ ⟨by omega, by omega⟩]
          omega
        have hsub2 : wrap64 (((ints (pre ++ [l])).length : Int) - 1) = (pre.length : Int) := by
          rw [HIL.out, IntWalk.wrap64_in _ ⟨by omega, by omega⟩]
          omega
        have hpi : (pre.length : Int) < ((ints (pre ++ [l])).length : Int) := by rw [HIL.out]; omega
        have hli : (l : Int) < ((ci n).length : Int) := by omega
        clear hvr hvx hwl e2
        go_wp2_with fail
        refine wp_region_mix (fun w' => Below w4.heap.size w4 w') [6, 14, 15] [0, 1, 2, 3, 4, 5, 7, 8, 9, 10, 11, 12, 6, 13, 14, 15, 16, 17] (by kernel_rfl) (by kernel_rfl) (fun _ _ d _ _ h => by cases d <;> exact h) (by kernel_rfl) rfl (Below.refl _ _).drew ?_
        refine mix_take 0 _ ?_ rfl rfl rfl (some 28) rfl (fun w' hw' => ?hv0) ?_
        case hv0 =>
          go_simp
          with_reducible rfl
        simp only [Act.put, List.setIfInBounds_toArray, List.set_cons_zero, List.set_cons_succ]
        refine mix_take 1 _ ?_ rfl rfl rfl (some 29) rfl (fun w' hw' => ?hv1) ?_
        case hv1 =>
          go_simp
          with_reducible rfl
        simp only [Act.put, List.setIfInBounds_toArray, List.set_cons_zero, List.set_cons_succ]
        refine mix_take 2 _ ?_ rfl rfl rfl (some 30) rfl (fun w' hw' => ?hv2) ?_
        case hv2 =>
          go_simp
          with_reducible rfl
        simp only [Act.put, List.setIfInBounds_toArray, List.set_cons_zero, List.set_cons_succ]
        refine mix_take 3 _ ?_ rfl rfl rfl (some 31) rfl (fun w' hw' => ?hv3) ?_
        case hv3 =>
          go_simp
          with_reducible rfl
        simp only [Act.put, List.setIfInBounds_toArray, List.set_cons_zero, List.set_cons_succ]
        refine mix_take 4 _ ?_ rfl rfl rfl (some 32) rfl (fun w' hw' => ?hv4) ?_
        case hv4 =>
          go_simp
          with_reducible rfl
        simp only [Act.put, List.setIfInBounds_toArray, List.set_cons_zero, List.set_cons_succ]
        refine mix_take 5 _ ?_ rfl rfl rfl (some 33) rfl (fun w' hw' => ?hv5) ?_
        case hv5 =>
          go_simp
          with_reducible rfl
        simp only [Act.put, List.setIfInBounds_toArray, List.set_cons_zero, List.set_cons_succ]
        refine mix_take 7 _ ?_ rfl rfl rfl (some 35) rfl (fun w' hw' => ?hv7) ?_
        case hv7 =>
          go_simp
          with_reducible rfl
        simp only [Act.put, List.setIfInBounds_toArray, List.set_cons_zero, List.set_cons_succ]
        refine mix_take 8 _ ?_ rfl rfl rfl (some 36) rfl (fun w' hw' => ?hv8) ?_
        case hv8 =>
          go_simp
          with_reducible rfl
        simp only [Act.put, List.setIfInBounds_toArray, List.set_cons_zero, List.set_cons_succ]
        refine mix_take 9 _ ?_ rfl rfl rfl (some 37) rfl (fun w' hw' => ?hv9) ?_
        case hv9 =>
          go_simp
          with_reducible rfl
        simp only [Act.put, List.setIfInBounds_toArray, List.set_cons_zero, List.set_cons_succ]
        refine mix_take 10 _ ?_ rfl rfl rfl (some 38) rfl (fun w' hw' => ?hv10) ?_
        case hv10 =>
          go_simp
          with_reducible rfl
        simp only [Act.put, List.setIfInBounds_toArray, List.set_cons_zero, List.set_cons_succ]
        refine mix_take 11 _ ?_ rfl rfl rfl (some 39) rfl (fun w' hw' => ?hv11) ?_
        case hv11 =>
          go_simp
          with_reducible rfl
        simp only [Act.put, List.setIfInBounds_toArray, List.set_cons_zero, List.set_cons_succ]
        refine mix_take 12 _ ?_ rfl rfl rfl (some 40) rfl (fun w' hw' => ?hv12) ?_
        case hv12 =>
          have c0 := (Below.cell (p := ⟨vb, pre.length, none⟩) hw' hvb).trans c0
          go_simp
          with_reducible rfl
        simp only [Act.put, List.setIfInBounds_toArray, List.set_cons_zero, List.set_cons_succ]
        refine mix_call 6 _ rfl rfl rfl 51 #[.int .i64 n] (some 34) rfl ?hr6 ?_
        case hr6 => go_simp
        refine (meCells_any n h1 h2 _).mono ?_
        rintro e w5 ⟨v, rfl, hc, hb5⟩
        rw [← HE.out] at hc
        obtain ⟨sa, sm, sc, rfl⟩ := cells_shape hc
        obtain ⟨rfl, g, ra, rc, rb, rfl, c1, hr1, hrb1, -, -⟩ := spec_cell3 h2 hc hl
        have hB5 : Below w4.heap.size w4 w5 := (Below.refl _ _).drew.trans hb5
        refine ⟨_, rfl, hB5, ?_⟩
        simp only [Act.put, List.setIfInBounds_toArray, List.set_cons_zero, List.set_cons_succ]
        refine mix_take 13 _ ?_ rfl rfl rfl (some 41) rfl (fun w' hw' => ?hv13) ?_
        case hv13 =>
          go_simp
          with_reducible rfl
        simp only [Act.put, List.setIfInBounds_toArray, List.set_cons_zero, List.set_cons_succ]
        refine mix_val 14 _ ?_ rfl rfl rfl (some 42) rfl ?hv14 ⟨hB5, ?_⟩
        case hv14 =>
          go_simp
          with_reducible rfl
        simp only [Act.put, List.setIfInBounds_toArray, List.set_cons_zero, List.set_cons_succ]
        refine mix_call 15 _ rfl rfl rfl 50 #[.slice a len cap, .slice ra 3 rc] (some 43) rfl ?hr15 ?_
        case hr15 => go_simp
        have hB05 := bnext hB4 hB5
        refine (doFull_go n l xs a ra b rb len cap rc w5 HL.out hl HN.out (HRD.out w5 hB05) hr1).mono ?_
        rintro e w6 ⟨rfl, rfl⟩
        rw [HFU.out]
        refine ⟨_, rfl, hB5, ?_⟩
        simp only [Act.put, List.setIfInBounds_toArray, List.set_cons_zero, List.set_cons_succ]
        refine mix_take 16 _ ?_ rfl rfl rfl (some 44) rfl (fun w' hw' => ?hv16) ?_
        case hv16 =>
          go_simp
          with_reducible rfl
        simp only [Act.put, List.setIfInBounds_toArray, List.set_cons_zero, List.set_cons_succ]
        refine mix_take 17 _ ?_ rfl rfl rfl (some 45) rfl (fun w' hw' => ?hv17) ?_
        case hv17 =>
          go_simp
          with_reducible rfl
        simp only [Act.put, List.setIfInBounds_toArray, List.set_cons_zero, List.set_cons_succ]
        refine mix_done ?_
        have c5 := (hB5.cell (p := ⟨vb, pre.length, none⟩) hvb).trans c0
        clear hc hr1 hrb1 c1 c0 hb5 hB5 ho4
        cases f
        · go_wp2_with fail
          go_ret2
          exact ⟨ret_in (by rw [HV.out, H1.out]; rfl) H1.out, hB05⟩
        · go_wp2_with fail
          go_ret2
          exact ⟨ret_iv (by rw [HV.out, H1.out, if_pos rfl, lastN_app]) H1.out, hB05⟩
end Go.Proofs.Ytgloelhpnhofgaa
