import Derived.Test.YtgbfpmfennmebaaVe
namespace Go.Proofs.Ytgbfpmfennmebaa
open Go.RowKit
set_option maxRecDepth 4000
section
variable {P : Program} {ops : Array Oper} {S : World → Prop} {Q : Exit → Act → World → Prop}
/-- An operation whose guard does not want it. -/
theorem mix_skip {sole rest : List Nat} {a : Act} {w : World} (i : Nat) (o : Oper) (hi : sole.contains i = false) (ho : ops[i]? = some o) (hw : Region.wanted o (yielded ops a.tmps) = false) (d : Option Tmp) (hd : o.dst = d)
    (h : wpMix P ops S Q sole rest (a.put d undef) w) : wpMix P ops S Q sole (i :: rest) a w := by
  subst hd
  unfold wpMix
  rw [hi]
  exact ⟨o, undef, ho, .inr ⟨hw, rfl⟩, h⟩
theorem mix_skips {sole rest : List Nat} {a : Act} {w : World} (i : Nat) (o : Oper) (hi : sole.contains i = true) (ho : ops[i]? = some o) (hw : Region.wanted o (yielded ops a.tmps) = false) (d : Option Tmp) (hd : o.dst = d) (hS : S w)
    (h : wpMix P ops S Q sole rest (a.put d undef) w) : wpMix P ops S Q sole (i :: rest) a w := by
  subst hd
  refine mix_sole i o hi ho (fun K' hK => ?_)
  rw [if_neg (by rw [hw]; simp)]
  exact hK _ _ ⟨hS, h⟩
end
/-- The door of a full room, and the walk out of it. -/
def dF (xs : List Int) (n k : Nat) : Int × Int := (dcell xs n k).getD 0 (0, 0)
def wF (xs : List Int) (n k : Nat) : List Nat × (Int × Int) × Bool := wfrom xs n k (dF xs n k)
theorem full_door {xs : List Int} {n k : Nat} (hL : labB n xs = true) (hk : k < (ci n).length) (hf : fullB xs n k = true) : dcell xs n k = [dF xs n k] ∧ Goes xs n k (dF xs n k) ∧ (dF xs n k).1 < (dF xs n k).2 := by
  obtain ⟨h1, h2, -⟩ := labB_yes hL
  rcases dcell_cases n k xs hL hk with ⟨-, p, hp⟩ | ⟨h, -⟩
  · have e : dF xs n k = p := by rw [dF, hp]; rfl
    rw [e]
    have hm := (mem_dcell.1 (by rw [hp]; simp : p ∈ dcell xs n k)).1
    exact ⟨hp, goes_full hL hk hp, cpairs_sorted h2 hk hm⟩
  · rw [hf] at h
    cases h
theorem wF_last {xs : List Int} {n k : Nat} (hL : labB n xs = true) (hk : k < (ci n).length) (hf : fullB xs n k = true) :
    (wF xs n k).1 = [] ∧ (wF xs n k).2.2 = false ∨ ∃ pre l, (wF xs n k).1 = pre ++ [l] ∧ l < (ci n).length ∧ fullB xs n l = (wF xs n k).2.2 := by
  obtain ⟨-, hg, -⟩ := full_door hL hk hf
  cases ha : acrossI n k (inner (dF xs n k)) with
  | none => exact .inl (by simp [wF, wfrom, ha])
  | some q => exact .inr (wfrom_last hL hg ha)
set_option maxHeartbeats 1600000 in
theorem doPartner_any (n k : Nat) (xs : List Int) (a : Option Addr) (b len cap : Nat) (w : World) (hL : labB n xs = true) (hk : k < (ci n).length) (hf : fullB xs n k = true) (hn : xs.length = len) (h : Rd w a b 0 xs) (hb0 : len = 0 ∨ b < w.heap.size) :
    Calls Try.prog 42 #[.int .i64 n, .slice a len cap, .int .i64 k] w fun e w' => ∃ v, e = .returned v ∧ w'.ownsRow w.heap.size 3 1 v (ints (wF xs n k).1).length ((ints (wF xs n k).1).map (Value.int .i64)) ∧ Below w.heap.size w w' := by
  obtain ⟨h1, h2, -⟩ := labB_yes hL
  obtain ⟨hd1, hd2, hd3⟩ := full_door hL hk hf
  obtain ⟨s0, L, R, hLR, hat⟩ := goes_at hd2
  have hW : Hid ((wF xs n k).1 = L) := Lib.hid (by rw [wF, hLR])
  have HD1 := Lib.hid hd1
  have HL := Lib.hid hL
  have HRD := Lib.hid (fun w' (hb : Below w.heap.size w w') => h.later hn hb0 hb)
  have HRB := Lib.hid (fun w' (hb : Below w.heap.size w w') => lt_later hb0 hb)
  have HN := Lib.hid hn
  have HE := Lib.hid (ci_eq n (by omega) h1)
  have hbd := ci_bd n h2
  have HIN := Lib.hid (inner_sorted hd3)
  rw [hW.out]
  clear hL h hn hb0 hLR hd1 hd2 hf
  generalize dF xs n k = p at HD1 hd3 hat HIN
  obtain ⟨p1, p2⟩ := p
  have HAT := Lib.hid hat
  simp only at hd3
  clear hat
  go_enter Try.func42, Try.ntmps42
  go_wp2_with fail
  refine (meCells_any n h1 h2 _).mono ?_
  rintro e w1 ⟨v, rfl, hc, hb1⟩
  rw [← HE.out] at hc
  obtain ⟨ca, cm, cc, rfl⟩ := cells_shape hc
  obtain ⟨rfl, g, ra, rc, rb, rfl, c1, hr1, hrb1, hrc1, hrc2⟩ := spec_cell3 h2 hc hk
  have hki : (k : Int) < ((ci n).length : Int) := by omega
  go_wp2_with fail
  refine (doOfCell_go n k xs a ra b rb len cap rc w1 HL.out hk HN.out (HRD.out w1 hb1) hr1 (HRB.out w1 hb1) hrb1 hrc1 hrc2).mono ?_
  rintro e w2 ⟨v, rfl, hc2, hb2⟩
  rw [HD1.out] at hc2
  obtain ⟨sa, sm, sc, rfl⟩ := cells_shape hc2
  obtain ⟨rfl, -, hrows⟩ := cells_row hc2
  obtain ⟨rg, qa, qc, qb, rfl, -, hrgl, c2, hqx, hqr, -⟩ := hrows 0 (by simp)
  have hl1 : (List.map lst [(p1, p2)]).length = 1 := rfl
  rw [hl1]
  have hl2 : ((List.map lst [(p1, p2)]).getD 0 []) = [p1, p2] := rfl
  rw [hl2] at c2 hqr
  have hqb : qb < w2.heap.size := by
    rcases hqx with h | ⟨-, h3, -⟩
    · have := (hqr.2 0 (by simp)).1
      rw [h] at this
      cases this
    · exact h3
  have hB2 := bnext hb1 hb2
  have hc' := cells_now hc hb2
  have HQR := Lib.hid hqr
  clear hrows hc2 hqx c1 hr1 hrb1 hb1 hb2 hc hl1 hl2 hqr
  go_wp2_with fail
  refine (doNextT_any n p1 p2 (k : Int) _ qa w.heap.size qb _ _ qc w2 h2 hc' HQR.out hqb (by omega)).mono ?_
  rintro e w3 ⟨rfl, hb3⟩
  have hB3 := bnext hB2 hb3
  have hc3 := cells_now hc' hb3
  have hqr3 := HQR.out.below hb3 (.inr hqb)
  have hqb3 : qb < w3.heap.size := by have := hb3.size; omega
  clear hc' hb3 c2
  go_wp2_with fail
  refine (doWalk_any n xs w.heap.size _ _ cc a b len cap qa qb qc p1 p2 _ s0 L R w3 HL.out hc3 HN.out (HRD.out w3 hB3) (HRB.out w3 hB3) hqr3 hqb3 hd3 HAT.out).mono ?_
  rintro e w4 ⟨v, pd, bd, cd, rfl, ho4, -, -, hb4⟩
  have hle := hB3.size
  go_wp2_with fail
  go_ret
  exact ⟨v, rfl, own_base (own_num ho4 (ints_len L).symm) hle, bnext hB3 hb4⟩
def okPart (n : Int) (xs : List Int) (k : Int) : Bool := okCell n xs k && fullB xs n.toNat k.toNat && (wF xs n.toNat k.toNat).2.2
def valPart (n : Int) (xs : List Int) (k : Int) : Int := if okPart n xs k then lastN (wF xs n.toNat k.toNat).1 else 0
theorem part_no {n k : Int} {xs : List Int} (h : okPart n xs k = false) : valPart n xs k = 0 := by simp [valPart, h]
end Go.Proofs.Ytgbfpmfennmebaa
