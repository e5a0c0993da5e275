import Derived.Test.YtokhpchnnilbaaaNx
import Derived.Test.YtokhpchnnilbaaaN15
namespace Go.Proofs.Ytokhpchnnilbaaa
open Go.RowKit
set_option maxRecDepth 4000
def OutCutsOfSigns (w : World) (r0 : List Int) (r1 : Bool) (e : Ending) (w' : World) : Prop := ∃ v0, e = .returned (.tuple #[v0, .bool r1]) ∧ OI w' w.heap.size w'.heap.size v0 r0 ∧ Below w.heap.size w w'
set_option maxHeartbeats 3200000 in
theorem lawOf_CutsOfSigns (s : ByteArray) (xs : List Int) (a_xs : Option Addr) (c_xs : Nat) (w : World) (h_xs : RdS w w.heap.size a_xs xs) (r0 : List Int) (r1 : Bool) (hL0 : r0.length ≤ 100000)
    (hs : ∀ (a_xs' : Option Addr) (c_xs' : Nat) (w' : World), s.size ≤ 1048576 → xs.length ≤ 1048576 → RdS w' w'.heap.size a_xs' xs → Calls Try.prog 31 #[.string s, .slice a_xs' xs.length c_xs'] w' (OutCutsOfSigns w' r0 r1))
    (hi : ∀ (a_xs' : Option Addr) (c_xs' : Nat) (w' : World), s.size ≤ 1048576 → xs.length ≤ 1048576 → RdS w' w'.heap.size a_xs' xs → Calls Try.prog 32 #[.string s, .slice a_xs' xs.length c_xs'] w' (OutCutsOfSigns w' r0 r1)) :
    Calls Try.prog 9 #[.string s, .slice a_xs xs.length c_xs] w fun e w' => e = .returned (.bool true) ∧ Below w.heap.size w w' := by
  have HS := Lib.hid hs
  have HI := Lib.hid hi
  clear hs hi
  have hne1 : (r1 != r1) = false := by simp
  have hB0 : Below w.heap.size w w := Below.refl _ _
  by_cases hbig_s : (1048576 : Int) < (s.size : Int)
  · go_enter Try.func9, Try.ntmps9
    go_wp2_with fail
    go_ret
    exact ⟨rfl, Below.refl _ _⟩
  have hsz_s : s.size ≤ 1048576 := by omega
  by_cases hbig_xs : (1048576 : Int) < (xs.length : Int)
  · go_enter Try.func9, Try.ntmps9
    go_wp2_with fail
    go_ret
    exact ⟨rfl, Below.refl _ _⟩
  have hsz_xs : xs.length ≤ 1048576 := by omega
  go_enter Try.func9, Try.ntmps9
  go_wp2_with fail
  refine (toIntS_rd xs a_xs c_xs _ _ h_xs (by omega) hsz_xs).mono ?_
  rintro e w1 ⟨v_xsp, rfl, o_xsp, hb⟩
  have hc := chg_below hb
  clear hb
  have z1 := hc.size
  replace h_xs := rds_chg h_xs hc (by omega) (by omega)
  replace hB0 := below_chg hB0 hc (by omega) (by omega)
  clear hc
  obtain ⟨a_xsp, c_xsp, _, rfl, -, rd_xsp⟩ := oi_shape o_xsp
  go_wp2_with fail
  refine (HS.out a_xsp c_xsp _ hsz_s hsz_xs (rds_mono rd_xsp (by omega))).mono ?_
  rintro e w2 ⟨vs0, rfl, os0, hb⟩
  have hc := chg_below hb
  clear hb
  clear rd_xsp
  have z2 := hc.size
  replace h_xs := rds_chg h_xs hc (by omega) (by omega)
  replace o_xsp := oi_keep o_xsp hc (by omega) (by omega)
  replace hB0 := below_chg hB0 hc (by omega) (by omega)
  clear hc
  obtain ⟨as0, cs0, -, rfl, -⟩ := oi_shape os0
  go_wp2_with fail
  clear o_xsp
  refine (toIntS_rd xs a_xs c_xs _ _ h_xs (by omega) hsz_xs).mono ?_
  rintro e w3 ⟨v_xsx, rfl, o_xsx, hb⟩
  have hc := chg_below hb
  clear hb
  have z3 := hc.size
  replace h_xs := rds_chg h_xs hc (by omega) (by omega)
  replace os0 := oi_keep os0 hc (by omega) (by omega)
  replace hB0 := below_chg hB0 hc (by omega) (by omega)
  clear hc
  obtain ⟨a_xsx, c_xsx, _, rfl, -, rd_xsx⟩ := oi_shape o_xsx
  go_wp2_with fail
  refine (HI.out a_xsx c_xsx _ hsz_s hsz_xs (rds_mono rd_xsx (by omega))).mono ?_
  rintro e w4 ⟨vg0, rfl, og0, hb⟩
  have hc := chg_below hb
  clear hb
  clear rd_xsx
  have z4 := hc.size
  replace h_xs := rds_chg h_xs hc (by omega) (by omega)
  replace os0 := oi_keep os0 hc (by omega) (by omega)
  replace o_xsx := oi_keep o_xsx hc (by omega) (by omega)
  replace hB0 := below_chg hB0 hc (by omega) (by omega)
  clear hc
  obtain ⟨ag0, cg0, -, rfl, -⟩ := oi_shape og0
  go_wp2_with fail
  refine (eqIntS_rd r0 ag0 as0 _ _ cg0 cs0 _ (oi_rds og0) (oi_rds os0)).mono ?_
  rintro e w5 ⟨rfl, hs⟩
  have hc := chg_same hs
  clear hs
  have z5 := hc.size
  replace h_xs := rds_chg h_xs hc (by omega) (by omega)
  replace os0 := oi_keep os0 hc (by omega) (by omega)
  replace o_xsx := oi_keep o_xsx hc (by omega) (by omega)
  replace og0 := oi_keep og0 hc (by omega) (by omega)
  replace hB0 := below_chg hB0 hc (by omega) (by omega)
  clear hc
  go_wp2_with fail
  refine (toIntS_rd xs a_xs c_xs _ _ h_xs (by omega) hsz_xs).mono ?_
  rintro e w6 ⟨v_xsy, rfl, o_xsy, hb⟩
  have hc := chg_below hb
  clear hb
  have z6 := hc.size
  replace h_xs := rds_chg h_xs hc (by omega) (by omega)
  replace os0 := oi_keep os0 hc (by omega) (by omega)
  replace o_xsx := oi_keep o_xsx hc (by omega) (by omega)
  replace og0 := oi_keep og0 hc (by omega) (by omega)
  replace hB0 := below_chg hB0 hc (by omega) (by omega)
  clear hc
  obtain ⟨a_xsy, c_xsy, -, rfl, -⟩ := oi_shape o_xsy
  go_wp2_with fail
  refine (eqIntS_rd xs a_xsx a_xsy _ _ c_xsx c_xsy _ (oi_rds o_xsx) (oi_rds o_xsy)).mono ?_
  rintro e w7 ⟨rfl, hs⟩
  have hc := chg_same hs
  clear hs
  have z7 := hc.size
  replace h_xs := rds_chg h_xs hc (by omega) (by omega)
  replace os0 := oi_keep os0 hc (by omega) (by omega)
  replace o_xsx := oi_keep o_xsx hc (by omega) (by omega)
  replace og0 := oi_keep og0 hc (by omega) (by omega)
  replace o_xsy := oi_keep o_xsy hc (by omega) (by omega)
  replace hB0 := below_chg hB0 hc (by omega) (by omega)
  clear hc
  go_wp2_with fail
  clear o_xsy
  refine (markIntS_chg xs a_xsx _ _ c_xsx _ _ o_xsx (by omega) (by omega)).mono ?_
  rintro e w8 ⟨rfl, -, hc⟩
  clear o_xsx
  have z8 := hc.size
  replace h_xs := rds_chg h_xs hc (by omega) (by omega)
  replace os0 := oi_keep os0 hc (by omega) (by omega)
  replace og0 := oi_keep og0 hc (by omega) (by omega)
  replace hB0 := below_chg hB0 hc (by omega) (by omega)
  clear hc
  go_wp2_with fail
  refine (eqIntS_rd r0 ag0 as0 _ _ cg0 cs0 _ (oi_rds og0) (oi_rds os0)).mono ?_
  rintro e w9 ⟨rfl, hs⟩
  have hc := chg_same hs
  clear hs
  have z9 := hc.size
  replace h_xs := rds_chg h_xs hc (by omega) (by omega)
  replace os0 := oi_keep os0 hc (by omega) (by omega)
  replace og0 := oi_keep og0 hc (by omega) (by omega)
  replace hB0 := below_chg hB0 hc (by omega) (by omega)
  clear hc
  go_wp2_with fail
  refine (markIntS_chg r0 ag0 _ _ cg0 1 _ og0 (by omega) (by omega)).mono ?_
  rintro e w10 ⟨rfl, om0, hc⟩
  have hlm0 : (mkd 1 r0.length r0).length = r0.length := mkd_len _ _ _ (Nat.le_refl _)
  have HLM0 := Lib.hid hlm0
  clear hlm0
  clear og0
  have z10 := hc.size
  replace h_xs := rds_chg h_xs hc (by omega) (by omega)
  replace os0 := oi_keep os0 hc (by omega) (by omega)
  replace hB0 := below_chg hB0 hc (by omega) (by omega)
  clear hc
  go_wp2_with fail
  refine (heldIntS_rd r0 1 ag0 _ _ cg0 _ HLM0.out (oi_rds2 om0) (by omega) (by omega)).mono ?_
  rintro e w' ⟨rfl, rfl⟩
  go_wp2_with fail
  refine (toIntS_rd xs a_xs c_xs _ _ h_xs (by omega) hsz_xs).mono ?_
  rintro e w11 ⟨v_xsz, rfl, o_xsz, hb⟩
  have hc := chg_below hb
  clear hb
  have z11 := hc.size
  replace h_xs := rds_chg h_xs hc (by omega) (by omega)
  replace os0 := oi_keep os0 hc (by omega) (by omega)
  replace om0 := oi_keep om0 hc (by omega) (by omega)
  replace hB0 := below_chg hB0 hc (by omega) (by omega)
  clear hc
  obtain ⟨a_xsz, c_xsz, _, rfl, -, rd_xsz⟩ := oi_shape o_xsz
  go_wp2_with fail
  refine (HI.out a_xsz c_xsz _ hsz_s hsz_xs (rds_mono rd_xsz (by omega))).mono ?_
  rintro e w12 ⟨vh0, rfl, oh0, hb⟩
  have hc := chg_below hb
  clear hb
  clear rd_xsz
  have z12 := hc.size
  replace h_xs := rds_chg h_xs hc (by omega) (by omega)
  replace os0 := oi_keep os0 hc (by omega) (by omega)
  replace om0 := oi_keep om0 hc (by omega) (by omega)
  replace o_xsz := oi_keep o_xsz hc (by omega) (by omega)
  replace hB0 := below_chg hB0 hc (by omega) (by omega)
  clear hc
  obtain ⟨ah0, ch0, -, rfl, -⟩ := oi_shape oh0
  go_wp2_with fail
  clear o_xsz
  refine (eqIntS_rd r0 ah0 as0 _ _ ch0 cs0 _ (oi_rds oh0) (oi_rds os0)).mono ?_
  rintro e w13 ⟨rfl, hs⟩
  have hc := chg_same hs
  clear hs
  have z13 := hc.size
  replace h_xs := rds_chg h_xs hc (by omega) (by omega)
  replace os0 := oi_keep os0 hc (by omega) (by omega)
  replace om0 := oi_keep om0 hc (by omega) (by omega)
  replace oh0 := oi_keep oh0 hc (by omega) (by omega)
  replace hB0 := below_chg hB0 hc (by omega) (by omega)
  clear hc
  go_wp2_with fail
  refine (heldIntS_rd r0 1 ag0 _ _ cg0 _ HLM0.out (oi_rds2 om0) (by omega) (by omega)).mono ?_
  rintro e w' ⟨rfl, rfl⟩
  go_wp2_with fail
  go_ret
  exact ⟨rfl, hB0⟩
def cgV (s : ByteArray) (xs : List Int) : Bool := goodS s && siG s.size xs
def cgL (s : ByteArray) (xs : List Int) : List Int := if cgV s xs = true then csU xs xs.length else []
theorem cgL_yes {s : ByteArray} {xs : List Int} (h : cgV s xs = true) : cgL s xs = csU xs xs.length := by simp [cgL, h]
theorem cgL_no {s : ByteArray} {xs : List Int} (h : cgV s xs = false) : cgL s xs = [] := by simp [cgL, h]
theorem cgV_len {s : ByteArray} {xs : List Int} (h : cgV s xs = true) : xs.length = s.size ∧ s.size ≤ 16 := by
  simp only [cgV, siG, Bool.and_eq_true, decide_eq_true_eq] at h
  exact ⟨h.2.1, (goodS_at h.1).1⟩
theorem cgL_len (s : ByteArray) (xs : List Int) : (cgL s xs).length ≤ 100000 := by
  unfold cgL
  split
  · rename_i h
    have := cgV_len h
    have := csU_len xs xs.length
    omega
  · simp
theorem siG_bad (n : Nat) (xs : List Int) (i : Nat) (hi : i < xs.length) (h : badS xs i = true) : siG n xs = false := by simp [siG, anyS_yes xs i hi h]
theorem siG_first (n : Nat) (xs : List Int) (hi : 0 < xs.length) (h : xs.getD 0 0 ≠ 1) : siG n xs = false := by
  have h1 : ¬ xs.length = 0 := by omega
  simp only [siG, h1, decide_false, Bool.false_or, decide_eq_false h, Bool.and_false]
theorem siG_good (n : Nat) (xs : List Int) (hl : xs.length = n) (h : ∀ i, i < xs.length → badS xs i = false) (h0 : 0 < xs.length → xs.getD 0 0 = 1) : siG n xs = true := by
  simp only [siG, hl, decide_true, anyS_no xs h, Bool.not_false, Bool.true_and]
  by_cases e : n = 0
  · simp [e]
  · simp only [e, decide_false, Bool.false_or]
    exact decide_eq_true (h0 (by omega))
set_option maxHeartbeats 3200000 in
theorem specCuts_good (s : ByteArray) (hg : goodS s = true) (xs : List Int) (hl : xs.length = s.size) (a : Option Addr) (cap : Nat) (w : World) (h : RdS w w.heap.size a xs) :
    Calls Try.prog 31 #[.string s, .slice a xs.length cap] w (OutCutsOfSigns w (cgL s xs) (cgV s xs)) := by
  have h16 := (goodS_at hg).1
  have HG := Lib.hid (nlGood_any s w)
  have HVV : Hid (cgV s xs = siG s.size xs) := Lib.hid (by simp [cgV, hg])
  have HYES : Hid (siG s.size xs = true → cgL s xs = csU xs xs.length) := Lib.hid (fun e => cgL_yes (HVV.out.trans e))
  have HNO : Hid (siG s.size xs = false → cgL s xs = []) := Lib.hid (fun e => cgL_no (HVV.out.trans e))
  have HBAD := Lib.hid (siG_bad s.size xs)
  have HFST := Lib.hid (siG_first s.size xs)
  have HGOOD := Lib.hid (siG_good s.size xs hl)
  have HBV : Hid (∀ i, badS xs i = ((xs.getD i 0 != 1) && (xs.getD i 0 != -1))) := Lib.hid (fun i => rfl)
  rw [hg] at HG
  obtain ⟨b, off, ⟨hm, hc⟩, hbB⟩ := h
  have hC : ∀ j, j < xs.length → a = some ⟨b, off, none⟩ ∧ b < w.heap.size ∧ w.cell? ⟨b, off + j, none⟩ = some (.int .i64 (xs.getD j 0)) := fun j hj => ⟨(hc j hj).1, hbB.resolve_left (by omega), (hc j hj).2⟩
  have HC := Lib.hid hC
  have HL := Lib.hid (csU_len xs)
  have HZ : Hid (csU xs 0 = []) := Lib.hid rfl
  have HZ1 : Hid (csU xs 1 = []) := Lib.hid rfl
  have HS : Hid (∀ m, csU xs (m + 2) = if xs.getD (m + 1) 0 = xs.getD m 0 then csU xs (m + 1) else csU xs (m + 1) ++ [((m + 1 : Nat) : Int)]) := Lib.hid (fun m => rfl)
  rw [HVV.out]
  have hne : ((xs.length : Int) != (s.size : Int)) = false := by simp; omega
  have hns : xs.length ≤ 16 := by omega
  have HNE := Lib.hid hne
  clear hc hm hbB hC hg hl hne
  generalize hn : xs.length = n at *
  clear hn
  generalize csU xs = F at *
  have hne := HNE.out
  go_enter Try.func31, Try.ntmps31
  go_wp2_with fail
  refine HG.out.mono ?_
  rintro e w' ⟨rfl, rfl⟩
  go_wp2_with fail
  clear hne
  go_loopw [6, 21] (fun v6 v21 wr => ∃ i : Nat, i ≤ n ∧ v21 = .int .i64 i ∧ (∀ j, j < i → badS xs j = false) ∧ (0 < i → xs.getD 0 0 = 1) ∧ wr.ownsRow w.heap.size 3 1 v6 (F i).length ((F i).map (Value.int .i64)) ∧ Below w.heap.size w wr) (fun _ v21 _ => n - (intOf v21).toNat)
  case atStart => exact ⟨0, Nat.zero_le _, rfl, fun _ h => by omega, fun h => by omega, by rw [HZ.out]; exact World.ownsRow_nil _ _ _ _, Below.refl _ _⟩
  case round =>
    obtain ⟨i, hi, rfl, hall, h0, ho, hb⟩ := hrel
    obtain ⟨wq, hwq⟩ : ∃ wq : World, wq = wr := ⟨_, rfl⟩
    subst hwq
    have hz := hb.size
    have HA := Lib.hid hall
    have H0 := Lib.hid h0
    clear hall h0
    by_cases hlt : i < n
    · have hii : (i : Int) < (n : Int) := by omega
      obtain ⟨rfl, hbl, c1⟩ := HC.out i hlt
      replace c1 := (hb.cell (p := ⟨b, off + i, none⟩) hbl).trans c1
      have HB1 := Lib.hid (HBAD.out i hlt)
      have HBVi := Lib.hid (HBV.out i)
      have HT : Hid (badS xs i = false → ∀ j, j < i + 1 → badS xs j = false) := Lib.hid (fun hx j hj => by
        by_cases e : j = i
        · rw [e]; exact hx
        · exact HA.out j (by omega))
      by_cases hbad : badS xs i = true
      · have HX := Lib.hid (HB1.out hbad)
        have HY := Lib.hid (HNO.out HX.out)
        rw [HX.out, HY.out]
        have hb1 := HBVi.out.symm.trans hbad
        rw [Bool.and_eq_true] at hb1
        obtain ⟨q1, q2⟩ := hb1
        generalize xs.getD i 0 = x at *
        clear hbad
        go_wp2_with fail
        go_returns
        exact ⟨_, rfl, oi_nil _ _ _, hb⟩
      · have hbad' : badS xs i = false := by simpa using hbad
        have HX := Lib.hid (HT.out hbad')
        have hx : xs.getD i 0 = 1 ∨ xs.getD i 0 = -1 := by
          have := HBVi.out.symm.trans hbad'
          simp only [Bool.and_eq_false_iff, bne_eq_false_iff_eq] at this
          exact this
        clear hbad hbad'
        by_cases hi0 : i = 0
        · subst hi0
          rw [Nat.add_zero] at c1
          rcases hx with hx | hx
          · have HF0 : Hid (0 < 1 → xs.getD 0 0 = 1) := Lib.hid (fun _ => hx)
            rw [hx] at c1
            have HO1 : Hid (wq.ownsRow w.heap.size 3 1 _ (F 1).length ((F 1).map (Value.int .i64))) := Lib.hid (by rw [HZ1.out]; rw [HZ.out] at ho; exact ho)
            clear hx ho
            go_wp2_with fail
            try go_region
            go_wp2_with fail
            go_roundw
            case rel => exact ⟨1, by omega, by go_num, HX.out, HF0.out, HO1.out, hb⟩
            case measure => simp [intOf]; omega
          · have HXX := Lib.hid (HFST.out hlt (by rw [hx]; decide))
            have HY := Lib.hid (HNO.out HXX.out)
            rw [HXX.out, HY.out]
            rw [hx] at c1
            clear hx
            go_wp2_with fail
            go_returns
            exact ⟨_, rfl, oi_nil _ _ _, hb⟩
        · obtain ⟨p, rfl⟩ : ∃ p, i = p + 1 := ⟨i - 1, by omega⟩
          obtain ⟨-, -, c2⟩ := HC.out p (by omega)
          replace c2 := (hb.cell (p := ⟨b, off + p, none⟩) hbl).trans c2
          have hss := HS.out p
          have HLi : Hid ((F (p + 1)).length ≤ 1000) := Lib.hid (by have := HL.out (p + 1); omega)
          have HF0 : Hid (0 < p + 1 + 1 → xs.getD 0 0 = 1) := Lib.hid (fun _ => H0.out (by omega))
          have hpe : ((p + 1 : Nat) : Int) ≠ 0 := by omega
          generalize xs.getD (p + 1) 0 = x at *
          generalize xs.getD p 0 = y at *
          rcases hx with rfl | rfl
          · by_cases he : (1 : Int) = y
            · rw [if_pos he] at hss
              have HX2 := Lib.hid hss
              subst he
              clear hss
              go_wp2_with fail
              try go_region
              go_wp2_with fail
              go_roundw
              case rel => exact ⟨p + 1 + 1, by omega, by go_num, HX.out, HF0.out, by rw [HX2.out]; exact ho, hb⟩
              case measure => simp [intOf]; omega
            · rw [if_neg he] at hss
              have he1 : ((1 : Int) != y) = true := by simpa using he
              have HX2 := Lib.hid hss
              clear hss he
              go_wp2_with (at_builtin; go_loud (refine append_intg w.heap.size _ wq _ (F (p + 1)) (((p + 1 : Nat) : Int)) rfl _ _ rfl rfl rfl rfl ho hz (by have := HLi.out; omega) ?_; intro v' w3 ho3 hb3))
              rw [← HX2.out] at ho3
              go_roundw
              case rel => exact ⟨p + 1 + 1, by omega, by go_num, HX.out, HF0.out, ho3, hb.trans hb3⟩
              case measure => simp [intOf]; omega
          · by_cases he : (-1 : Int) = y
            · rw [if_pos he] at hss
              have HX2 := Lib.hid hss
              subst he
              clear hss
              go_wp2_with fail
              try go_region
              go_wp2_with fail
              go_roundw
              case rel => exact ⟨p + 1 + 1, by omega, by go_num, HX.out, HF0.out, by rw [HX2.out]; exact ho, hb⟩
              case measure => simp [intOf]; omega
            · rw [if_neg he] at hss
              have he1 : ((-1 : Int) != y) = true := by simpa using he
              have HX2 := Lib.hid hss
              clear hss he
              go_wp2_with (at_builtin; go_loud (refine append_intg w.heap.size _ wq _ (F (p + 1)) (((p + 1 : Nat) : Int)) rfl _ _ rfl rfl rfl rfl ho hz (by have := HLi.out; omega) ?_; intro v' w3 ho3 hb3))
              rw [← HX2.out] at ho3
              go_roundw
              case rel => exact ⟨p + 1 + 1, by omega, by go_num, HX.out, HF0.out, ho3, hb.trans hb3⟩
              case measure => simp [intOf]; omega
    · have hin : i = n := by omega
      have hii : ¬ (i : Int) < (n : Int) := by omega
      have HX := Lib.hid (HGOOD.out (fun j hj => HA.out j (by omega)) (fun h => H0.out (by omega)))
      have HY := Lib.hid (HYES.out HX.out)
      rw [HX.out, HY.out]
      subst hin
      have HO := Lib.hid (oi_new ho)
      clear ho
      go_wp2_with fail
      go_returns
      refine ⟨_, ?_, by rw [HY.out]; exact HO.out, hb⟩
      rw [HX.out]; rfl
set_option maxHeartbeats 800000 in
theorem specCuts_bad (s : ByteArray) (xs : List Int) (h : goodS s = false ∨ xs.length ≠ s.size) (a : Option Addr) (cap : Nat) (w : World) :
    Calls Try.prog 31 #[.string s, .slice a xs.length cap] w (OutCutsOfSigns w (cgL s xs) (cgV s xs)) := by
  have HG := Lib.hid (nlGood_any s w)
  have hv : cgV s xs = false := by
    rcases h with h | h
    · simp [cgV, h]
    · simp [cgV, siG, h]
  have HV := Lib.hid hv
  have HE := Lib.hid (cgL_no hv)
  rw [HV.out, HE.out]
  clear hv
  cases hg : goodS s
  · rw [hg] at HG
    clear hg h
    go_enter Try.func31, Try.ntmps31
    go_wp2_with fail
    refine HG.out.mono ?_
    rintro e w' ⟨rfl, rfl⟩
    go_wp2_with fail
    go_returns
    exact ⟨_, rfl, oi_nil _ _ _, Below.refl _ _⟩
  · rw [hg] at HG h
    have hne : ((xs.length : Int) != (s.size : Int)) = true := by
      have := h.resolve_left (by simp)
      simp; omega
    clear hg h
    go_enter Try.func31, Try.ntmps31
    go_wp2_with fail
    refine HG.out.mono ?_
    rintro e w' ⟨rfl, rfl⟩
    go_wp2_with fail
    go_returns
    exact ⟨_, rfl, oi_nil _ _ _, Below.refl _ _⟩
set_option maxHeartbeats 800000 in
theorem implCuts_any (s : ByteArray) (xs : List Int) (a : Option Addr) (cap : Nat) (w : World) (h : RdS w w.heap.size a xs) :
    Calls Try.prog 32 #[.string s, .slice a xs.length cap] w (OutCutsOfSigns w (cgL s xs) (cgV s xs)) := by
  have HG := Lib.hid (neckOf_any s w)
  have HSG := Lib.hid (areSigns_any s xs a cap _ w h)
  cases hg : goodS s
  · have hv : cgV s xs = false := by simp [cgV, hg]
    have HV := Lib.hid hv
    have HE := Lib.hid (cgL_no hv)
    rw [HV.out, HE.out]
    rw [hg, gT_no hg] at HG
    clear hg h hv
    go_enter Try.func32, Try.ntmps32
    go_wp2_with fail
    refine HG.out.mono ?_
    rintro e w' ⟨rfl, rfl⟩
    go_wp2_with fail
    go_returns
    exact ⟨_, rfl, oi_nil _ _ _, Below.refl _ _⟩
  · cases hs : siG s.size xs
    · have hv : cgV s xs = false := by simp [cgV, hs]
      have HV := Lib.hid hv
      have HE := Lib.hid (cgL_no hv)
      rw [HV.out, HE.out]
      rw [hg, gT_yes hg] at HG
      rw [hs] at HSG
      clear hg h hv hs
      go_enter Try.func32, Try.ntmps32
      go_wp2_with fail
      refine HG.out.mono ?_
      rintro e w' ⟨rfl, rfl⟩
      go_wp2_with fail
      refine HSG.out.mono ?_
      rintro e w' ⟨rfl, rfl⟩
      go_wp2_with fail
      go_returns
      exact ⟨_, rfl, oi_nil _ _ _, Below.refl _ _⟩
    · have hv : cgV s xs = true := by simp [cgV, hs, hg]
      have HV := Lib.hid hv
      have HE := Lib.hid (cgL_yes hv)
      have hl := cgV_len hv
      have HC := Lib.hid (cutsOf_any xs (by omega) a cap w h)
      rw [HV.out, HE.out]
      rw [hg, gT_yes hg] at HG
      rw [hs] at HSG
      clear hg h hv hs hl
      go_enter Try.func32, Try.ntmps32
      go_wp2_with fail
      refine HG.out.mono ?_
      rintro e w' ⟨rfl, rfl⟩
      go_wp2_with fail
      refine HSG.out.mono ?_
      rintro e w' ⟨rfl, rfl⟩
      go_wp2_with fail
      refine HC.out.mono ?_
      rintro e w1 ⟨v, rfl, ho, hb⟩
      go_wp2_with fail
      go_returns
      exact ⟨_, rfl, ho, hb⟩
theorem law_CutsOfSigns (w : World) (s : ByteArray) (_ : s.size ≤ maxLen) (xs : List Int) (a : Option Addr) (c : Nat) (h : RdS w w.heap.size a xs) :
    Calls Try.prog 9 #[.string s, .slice a xs.length c] w fun e w' => e = .returned (.bool true) ∧ Below w.heap.size w w' := by
  refine lawOf_CutsOfSigns s xs a c w h (cgL s xs) (cgV s xs) (cgL_len s xs) (fun a' c' w' _ _ hr => ?_) (fun a' c' w' _ _ hr => implCuts_any s xs a' c' w' hr)
  by_cases hg : goodS s = true
  · by_cases hl : xs.length = s.size
    · exact specCuts_good s hg xs hl a' c' w' hr
    · exact specCuts_bad s xs (.inr hl) a' c' w'
  · exact specCuts_bad s xs (.inl (by simpa using hg)) a' c' w'
end Go.Proofs.Ytokhpchnnilbaaa
