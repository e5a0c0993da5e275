import Derived.Test.YtelchpdlfedleaaR1
import Derived.Test.YtelchpdlfedleaaZj
import Derived.Test.YtelchpdlfedleaaZa
namespace Go.Proofs.Ytelchpdlfedleaa
open Go.RowKit
set_option maxRecDepth 4000
theorem doFull_go (n k : Nat) (xs : List Int) (a a' : Option Addr) (b b' len cap cap' : Nat) (w : World) (hL : labB n xs = true) (hk : k < (ci n).length) (hn : xs.length = len) (h : Rd w a b 0 xs) (h' : Rd w a' b' 0 ((cl n k).map (fun (i : Nat) => (i : Int)))) :
    Calls Try.prog 95 #[.slice a len cap, .slice a' 3 cap'] w fun e w' => e = .returned (.bool (fullB xs n k)) ∧ w = w' := by
  obtain ⟨h1, h2, hl, hA⟩ := labB_yes hL
  have := (Pr.cnt_le n (by omega)).1
  exact doFull_any xs (cl n k) a a' b b' len 3 cap cap' w hn rfl h h' hA (cl_in n k xs hL hk) (by simp [cl]) (by omega)
theorem doOfCell_go (n k : Nat) (xs : List Int) (a a' : Option Addr) (b b' len cap cap' : Nat) (w : World) (hL : labB n xs = true) (hk : k < (ci n).length) (hn : xs.length = len) (h : Rd w a b 0 xs) (h' : Rd w a' b' 0 ((cl n k).map (fun (i : Nat) => (i : Int)))) (hb0 : len = 0 ∨ b < w.heap.size) (hb0' : a' = none ∨ b' < w.heap.size) (hcap : 3 ≤ cap') (hcm : cap' ≤ maxLen) :
    Calls Try.prog 137 #[.slice a len cap, .slice a' 3 cap'] w fun e w' => ∃ v, e = .returned v ∧ CellsV w' w.heap.size v ((dcell xs n k).map lst) ∧ Below w.heap.size w w' := by
  obtain ⟨h1, h2, hl, hA⟩ := labB_yes hL
  have := (Pr.cnt_le n (by omega)).1
  exact doOfCell_any xs (cl n k) a a' b b' len 3 cap cap' w hn rfl h h' hb0 hb0' hcap hA (cl_in n k xs hL hk) (by simp [cl]) hcm
def slen : Value → Nat
  | .slice _ m _ => m
  | _ => 0
theorem lst_at (ps : List (Int × Int)) (k : Nat) (hk : k < ps.length) : (ps.map lst).getD k [] = [(ps.getD k (0, 0)).1, (ps.getD k (0, 0)).2] := by
  simp [List.getD, hk, lst]
theorem oth_eq2 {n k : Nat} (xs : List Int) (p : Int × Int) : (dcell xs n k).find? (fun q => !(q.1 == p.1 && q.2 == p.2)) = otherD xs n k p := by
  refine find_congr _ fun q _ => ?_
  obtain ⟨a, b⟩ := q
  obtain ⟨c, d⟩ := p
  rw [Bool.eq_iff_iff]
  simp only [Bool.not_eq_true', Bool.and_eq_false_iff, beq_eq_false_iff_ne, decide_eq_true_eq, ne_eq, Prod.mk.injEq, Decidable.not_and_iff_or_not]
/-- What the model's walk answers: the rooms, and the last door. -/
def DWalked (w : World) (L : List Nat) (D : Int × Int) (e : Ending) (w' : World) : Prop :=
  ∃ v pd bd cd, e = .returned (.tuple #[v, .slice pd 2 cd]) ∧ w'.ownsRow w.heap.size 3 1 v L.length ((ints L).map (Value.int .i64)) ∧ Rd w' pd bd 0 [D.1, D.2] ∧ bd < w'.heap.size ∧ Below w.heap.size w w'
theorem dwalked_of {w w9 : World} {L out : List Nat} {R : (Int × Int) × Bool} {u v : Int} {f : Bool} {pv : Value} {pd : Option Addr} {bd cd : Nat} (hR : out = L ∧ R = ((u, v), f)) (ho : w9.ownsRow w.heap.size 3 1 pv (ints out).length ((ints out).map (Value.int .i64))) (hr : Rd w9 pd bd 0 [u, v]) (hb : bd < w9.heap.size) (hB : Below w.heap.size w w9) :
    DWalked w L R.1 (.returned (.tuple #[pv, .slice pd 2 cd])) w9 := by
  obtain ⟨rfl, rfl⟩ := hR
  exact ⟨pv, pd, bd, cd, rfl, by rw [ints_len] at ho; exact ho, hr, hb, hB⟩
set_option maxHeartbeats 3200000 in
theorem doWalk_any (n : Nat) (xs : List Int) (base : Nat) (ca : Option Addr) (cm cc : Nat) (a : Option Addr) (b len cap : Nat) (pd0 : Option Addr) (bd0 cd0 : Nat) (x y cell : Int) (s0 : Nat × (Int × Int)) (L : List Nat) (R : (Int × Int) × Bool) (w : World)
    (hL : labB n xs = true) (hc : CellsV w base (.slice ca cm cc) (ci n)) (hn : xs.length = len) (h : Rd w a b 0 xs) (hb0 : len = 0 ∨ b < w.heap.size) (hd : Rd w pd0 bd0 0 [x, y]) (hbd0 : bd0 < w.heap.size) (hxy : x < y) (hat : At xs n s0 L R [] cell (x, y)) :
    Calls Try.prog 122 #[.slice ca cm cc, .slice a len cap, .slice pd0 2 cd0, .int .i64 cell] w (DWalked w L R.1) := by
  obtain ⟨h1, h2, hl, hA⟩ := labB_yes hL
  have hbd := ci_bd n h2
  obtain ⟨rfl, -⟩ := cells_row hc
  have HL := Lib.hid hL
  have HC := Lib.hid (fun w' (hb : Below w.heap.size w w') => cells_now hc hb)
  have HRD := Lib.hid (fun w' (hb : Below w.heap.size w w') => h.later hn hb0 hb)
  have HRB := Lib.hid (fun w' (hb : Below w.heap.size w w') => lt_later hb0 hb)
  have HN := Lib.hid hn
  have HAT := Lib.hid hat
  have HD := Lib.hid hd
  clear hL hc h hat hd hn hA hl hb0
  go_enter Try.func122, Try.ntmps122
  go_wp2_with fail
  go_loopw [2, 3, 10] (fun v2 v3 v10 wr => ∃ (out : List Nat) (u v room : Int) (pd : Option Addr) (bd cd : Nat), v2 = .slice pd 2 cd ∧ Hid (Rd wr pd bd 0 [u, v]) ∧ bd < wr.heap.size ∧ v10.ownBlock ≠ some bd ∧ v3 = .int .i64 room ∧ u < v ∧ Hid (At xs n s0 L R out room (u, v)) ∧
    wr.ownsRow w.heap.size 3 1 v10 (ints out).length ((ints out).map (Value.int .i64)) ∧ Below w.heap.size w wr) (fun _ _ v10 _ => (ci n).length + 1 - slen v10)
  case atStart => exact ⟨[], x, y, cell, pd0, bd0, cd0, rfl, HD, hbd0, (by simp [Value.ownBlock]), rfl, hxy, HAT, World.ownsRow_nil _ _ _ _, Below.refl _ _⟩
  case round =>
    obtain ⟨out, u, v, room, pd, bd, cd, rfl, hrd, hbd1, hne1, rfl, huv, hat, ho, hB⟩ := hrel
    obtain ⟨-, pa, pc, pb, rfl, hpx, -⟩ := own_shape ho
    obtain ⟨wi, hwi⟩ : ∃ wi : World, wi = wr := ⟨_, rfl⟩
    subst hwi
    have hs := hB.size
    by_cases hrm : room = -1
    · have hend : out = L ∧ R = ((u, v), false) := by
        rcases hat.out with ⟨k, hk, -⟩ | ⟨-, h⟩
        · omega
        · rwa [inner_sorted huv] at h
      have HE := Lib.hid hend
      have hneg : room < 0 := by omega
      clear hrm hend hat
      go_wp2_with fail
      go_ret2
      exact dwalked_of HE.out ho hrd.out hbd1 hB
    · obtain ⟨k, rfl, hk, hol, hin, hfu, hno, hso⟩ := at_room HL.out hat.out hrm
      rw [inner_sorted huv] at hno hso hin hfu
      have HNO := Lib.hid hno
      have HSO := Lib.hid hso
      have HFU := Lib.hid hfu
      have HIL := Lib.hid (ints_len out)
      have hil2 : ((ints out).length : Int) ≤ ((ci n).length : Int) := by rw [HIL.out]; omega
      have hil3 : (ints out).length < 2000 := by rw [HIL.out]; omega
      have hki : (k : Int) < ((ci n).length : Int) := by omega
      clear hat hin hfu hno hso hrm
      have HNE := Lib.hid hne1
      clear hne1
      go_wp2_with (at_builtin; refine append_int_at w.heap.size wi _ (ints out) _ rfl _ _ rfl rfl rfl ho hs (by omega) ?_; intro v' w6 ho6 hb6 hk6 hn6; rw [← ints_app] at ho6; obtain ⟨-, pa', pc', pb', rfl, hpx', -⟩ := own_shape ho6; have hB6 := hB.trans hb6; obtain ⟨-, g, ra, rc, rb, rfl, c1, hr1, hrb1, hrc1, hrc2⟩ := spec_cell3 h2 (HC.out w6 hB6) hk)
      refine (doFull_go n k xs a ra b rb len cap rc w6 HL.out hk HN.out (HRD.out w6 hB6) hr1).mono ?_
      rintro e w7 ⟨rfl, rfl⟩
      have hbe := hk6 bd hbd1 HNE.out
      have hrd6 : Hid (Rd w6 pd bd 0 [u, v]) := Lib.hid ⟨hrd.out.1, fun j hj => ⟨(hrd.out.2 j hj).1, (World.cell?_of_block (a := ⟨bd, 0 + j, none⟩) hbe).trans (hrd.out.2 j hj).2⟩⟩
      have hbd6 : bd < w6.heap.size := Nat.lt_of_not_le fun hge => by
        have e1 : w6.heap[bd]? = none := Array.getElem?_eq_none hge
        rw [e1] at hbe
        have e2 : wi.heap[bd]? = some wi.heap[bd] := Array.getElem?_eq_getElem hbd1
        rw [e2] at hbe
        cases hbe
      have hne6 := Lib.hid (hn6 bd hbd1 HNE.out)
      clear ho hB hb6 hbe hk6 hn6 hrd hbd1
      cases hf : fullB xs n k
      · obtain ⟨d, hod⟩ : ∃ d, otherD xs n k (u, v) = some d := by
          rw [hf] at HFU
          cases ho : otherD xs n k (u, v) with
          | none => rw [ho] at HFU; exact absurd HFU.out (by simp)
          | some d => exact ⟨d, rfl⟩
        obtain ⟨hd1, hd2, hat⟩ := HSO.out d hod
        have HAT2 := Lib.hid hat
        have HD1 := Lib.hid hd1
        have HD2 := Lib.hid hd2
        have HFS := Lib.hid (fun q hq h => find_step (0, 0) (dcell xs n k) (fun q => !(q.1 == u && q.2 == v)) q hq h)
        have HOD := Lib.hid ((oth_eq2 xs (u, v)).trans hod)
        have hdl : (dcell xs n k).length ≤ 3 := Nat.le_trans (List.length_filter_le _ _) (by simp [cpairs])
        have HLA := Lib.hid (lst_at (dcell xs n k))
        clear hat hf hod hd1 hd2
        go_wp2_with fail
        refine (doOfCell_go n k xs a ra b rb len cap rc w6 HL.out hk HN.out (HRD.out w6 hB6) hr1 (HRB.out w6 hB6) hrb1 hrc1 hrc2).mono ?_
        rintro e w7 ⟨vv, rfl, hc7, hb7⟩
        obtain ⟨sa, sm, sc, rfl⟩ := cells_shape hc7
        obtain ⟨rfl, -, hrows⟩ := cells_row hc7
        have HRW := Lib.hid hrows
        have HML : Hid (((dcell xs n k).map lst).length = (dcell xs n k).length) := Lib.hid (by simp)
        have hB7 := bnext hB6 hb7
        have ho7 := own_now ho6 hb7
        have hrd7 : Hid (Rd w7 pd bd 0 [u, v]) := Lib.hid (hrd6.out.below hb7 (.inr hbd6))
        have hs7 := hb7.size
        have HLT7 := Lib.hid (own_lt ho6)
        clear hrows hc7 ho6 hb7 hrd6 c1 hr1 hrb1
        rw [HML.out]
        generalize hps : dcell xs n k = ps at hdl HFS HOD HLA HRW HML
        clear hps
        go_wp2_with fail
        go_loopw [2, 39] (fun v2 v39 wr => ∃ q : Nat, q ≤ ps.length ∧ v2 = .slice pd 2 cd ∧ v39 = .int .i64 q ∧ Hid ((ps.take q).find? (fun q => !(q.1 == u && q.2 == v)) = none) ∧ ∃ m, wr = w7.drewN m) (fun _ v39 _ => ps.length - (intOf v39).toNat)
        case atStart => exact ⟨0, Nat.zero_le _, rfl, rfl, Lib.hid (by simp), 0, rfl⟩
        case round =>
          obtain ⟨q, hq, rfl, rfl, hfq, m, rfl⟩ := hrel
          by_cases hlt : q < ps.length
          · obtain ⟨rg, qa, qc, qb, rfl, hrg, hrgl, cq1, hqx, hqr, hqo, -⟩ := HRW.out q (by rw [HML.out]; exact hlt)
            rw [HLA.out q hlt] at cq1 hqr
            have HS := Lib.hid (HFS.out q hlt hfq.out)
            have hqi : (q : Int) < (ps.length : Int) := by omega
            have HQB : Hid (w6.heap.size ≤ qb ∧ qb < w7.heap.size) := by
              refine Lib.hid ?_
              rcases hqx with h | ⟨h, h3, -⟩
              · have := (hqr.2 0 (by simp)).1
                rw [h] at this
                cases this
              · exact ⟨(hqo.lt qb (by rw [h]; rfl)).1, h3⟩
            generalize ps.getD q (0, 0) = p at cq1 hqr HS hqo
            obtain ⟨p1, p2⟩ := p
            simp only at cq1 hqr
            have cq1 : (w7.drewN m).cell? ⟨rg, q, none⟩ = some (.slice qa 2 qc) := cq1
            have HQR : Hid (Rd (w7.drewN m) qa qb 0 [p1, p2]) := Lib.hid (hqr.drewN m)
            have HRD7 : Hid (Rd (w7.drewN m) pd bd 0 [u, v]) := Lib.hid (hrd7.out.drewN m)
            have ho8 := own_now ho7 (below_drewN (Below.refl w7.heap.size w7) m)
            have hB8 := below_drewN hB7 m
            have hsd : (w7.drewN m).heap.size = w7.heap.size := rfl
            obtain ⟨w8, hw8⟩ : ∃ w8, w8 = w7.drewN m := ⟨_, rfl⟩
            rw [← hw8] at cq1 HQR HRD7 ho8 hB8 hsd ⊢
            have HW8 := Lib.hid hw8
            clear hw8 hqr hqo hqx
            go_wp2_with fail
            refine (l1Same2_any p1 p2 u v qa pd qb bd qc cd w8 HQR.out HRD7.out).mono ?_
            rintro e w9 ⟨rfl, m2, rfl⟩
            cases hsm : (p1 == u && p2 == v)
            · have e := (HS.out.1 (by simp only [hsm]; rfl)).symm.trans HOD.out
              simp only [Option.some.injEq] at e
              subst e
              have hqr9 : Rd (w8.drewN m2) qa qb 0 [p1, p2] := HQR.out.drewN m2
              have ho9 := own_now ho8 (below_drewN (Below.refl w8.heap.size w8) m2)
              have hB9 := below_drewN hB8 m2
              have hsd9 : (w8.drewN m2).heap.size = w7.heap.size := hsd
              clear hsm HS HQR HRD7 ho8 hB8 cq1 hrd7 HW8
              generalize w8.drewN m2 = w10 at hqr9 ho9 hB9 hsd9 ⊢
              have HC10 := HC.out w10 hB9
              go_wp2_with fail
              refine (doNextT_any n p1 p2 (k : Int) _ qa base qb _ _ qc w10 h2 HC10 hqr9 (by have := HQB.out.2; omega) (by have := HD1.out; omega)).mono ?_
              rintro e w11 ⟨rfl, hb11⟩
              rw [HD2.out]
              have ho11 := own_now ho9 hb11
              have hqr11 : Hid (Rd w11 qa qb 0 [p1, p2]) := Lib.hid (hqr9.below hb11 (.inr (by have := HQB.out.2; omega)))
              have hs11 := hb11.size
              have HOL : Hid ((ints (out ++ [k])).length = out.length + 1) := Lib.hid (by rw [ints_len, List.length_append]; rfl)
              go_wp2_with fail
              go_roundw
              case rel => exact ⟨out ++ [k], p1, p2, _, qa, qb, qc, rfl, hqr11, by have := HQB.out.2; omega, (fun e => by have := HLT7.out qb e; have := HQB.out.1; omega), rfl, by simpa using HD1.out, HAT2, ho11, bnext hB9 hb11⟩
              case measure =>
                have e1 := HOL.out
                have e2 := HIL.out
                simp only [slen]
                omega
            · have e := Lib.hid (HS.out.2 (by simp only [hsm]; rfl))
              clear hsm
              go_wp2_with fail
              go_roundw
              case rel => exact ⟨q + 1, by omega, rfl, by go_num, e, _, by rw [HW8.out, World.drewN_drewN]⟩
              case measure => simp [intOf]; omega
          · exfalso
            have := hfq.out
            rw [show q = ps.length by omega, List.take_length, HOD.out] at this
            cases this
      · have hod : otherD xs n k (u, v) = none := by
          rw [hf] at HFU
          cases ho : otherD xs n k (u, v) with
          | none => rfl
          | some d => rw [ho] at HFU; exact absurd HFU.out (by simp)
        have HE := Lib.hid (HNO.out hod)
        clear hf hod
        go_wp2_with fail
        go_ret2
        exact dwalked_of HE.out ho6 hrd6.out hbd6 hB6
end Go.Proofs.Ytelchpdlfedleaa
