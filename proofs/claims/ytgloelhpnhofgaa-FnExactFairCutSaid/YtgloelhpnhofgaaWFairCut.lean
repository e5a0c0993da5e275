import Derived.Test.YtgloelhpnhofgaaWFairCell
import Derived.Test.YtgloelhpnhofgaaFh
namespace Go.Proofs.Ytgloelhpnhofgaa
open Go.RowKit
set_option maxRecDepth 4000
def OutFairCut (w : World) (r0 : Int) (r1 : List Int) (r2 : Bool) (e : Ending) (w' : World) : Prop := ∃ v1, e = .returned (.tuple #[.int .i64 r0, v1, .bool r2]) ∧ OI w' w.heap.size w'.heap.size v1 r1 ∧ Below w.heap.size w w'
set_option maxHeartbeats 3200000 in
theorem lawOf_FairCut (n : Int) (ts : List (List Int)) (a_ts : Option Addr) (c_ts : Nat) (w : World) (h_ts : RdSS w w.heap.size a_ts ts) (r0 : Int) (r1 : List Int) (r2 : Bool) (hL1 : r1.length ≤ 100000)
    (hs : ∀ (a_ts' : Option Addr) (c_ts' : Nat) (w' : World), SmallSS ts → RdSS w' w'.heap.size a_ts' ts → Calls Try.prog 32 #[.int .i64 n, .slice a_ts' ts.length c_ts'] w' (OutFairCut w' r0 r1 r2))
    (hi : ∀ (a_ts' : Option Addr) (c_ts' : Nat) (w' : World), SmallSS ts → RdSS w' w'.heap.size a_ts' ts → Calls Try.prog 33 #[.int .i64 n, .slice a_ts' ts.length c_ts'] w' (OutFairCut w' r0 r1 r2)) :
    Calls Try.prog 8 #[.int .i64 n, .slice a_ts ts.length c_ts] w fun e w' => e = .returned (.bool true) ∧ Below w.heap.size w w' := by
  have HS := Lib.hid hs
  have HI := Lib.hid hi
  clear hs hi
  have hne0 : (r0 != r0) = false := by simp
  have hne2 : (r2 != r2) = false := by simp
  have hB0 : Below w.heap.size w w := Below.refl _ _
  go_enter Try.func8, Try.ntmps8
  go_wp2_with fail
  refine (szIntSS_any ts a_ts c_ts _ 1048576 (by omega) (by omega) w h_ts).mono ?_
  rintro e w' ⟨l1, rfl, rfl, hl⟩
  rcases hl with hl | ⟨hl0_0, hl1_0, hsz_ts⟩
  · go_wp2_with fail
    go_ret
    exact ⟨rfl, Below.refl _ _⟩
  go_wp2_with fail
  refine (toIntSS_any ts a_ts c_ts _ _ h_ts (by omega) hsz_ts).mono ?_
  rintro e w1 ⟨v_tsp, rfl, o_tsp, hb⟩
  have hc := chg_below hb
  clear hb
  have z1 := hc.size
  replace h_ts := rdss_chg h_ts hc (by omega) (by omega)
  replace hB0 := below_chg hB0 hc (by omega) (by omega)
  clear hc
  obtain ⟨a_tsp, c_tsp, rfl, rd_tsp⟩ := oss_shape o_tsp
  go_wp2_with fail
  refine (HS.out a_tsp c_tsp _ hsz_ts (rdss_mono rd_tsp (by omega))).mono ?_
  rintro e w2 ⟨vs1, rfl, os1, hb⟩
  have hc := chg_below hb
  clear hb
  clear rd_tsp
  have z2 := hc.size
  replace h_ts := rdss_chg h_ts hc (by omega) (by omega)
  replace o_tsp := oss_keep o_tsp hc (by omega) (by omega)
  replace hB0 := below_chg hB0 hc (by omega) (by omega)
  clear hc
  obtain ⟨as1, cs1, -, rfl, -⟩ := oi_shape os1
  go_wp2_with fail
  clear o_tsp
  refine (toIntSS_any ts a_ts c_ts _ _ h_ts (by omega) hsz_ts).mono ?_
  rintro e w3 ⟨v_tsx, rfl, o_tsx, hb⟩
  have hc := chg_below hb
  clear hb
  have z3 := hc.size
  replace h_ts := rdss_chg h_ts hc (by omega) (by omega)
  replace os1 := oi_keep os1 hc (by omega) (by omega)
  replace hB0 := below_chg hB0 hc (by omega) (by omega)
  clear hc
  obtain ⟨a_tsx, c_tsx, rfl, rd_tsx⟩ := oss_shape o_tsx
  go_wp2_with fail
  refine (HI.out a_tsx c_tsx _ hsz_ts (rdss_mono rd_tsx (by omega))).mono ?_
  rintro e w4 ⟨vg1, rfl, og1, hb⟩
  have hc := chg_below hb
  clear hb
  clear rd_tsx
  have z4 := hc.size
  replace h_ts := rdss_chg h_ts hc (by omega) (by omega)
  replace os1 := oi_keep os1 hc (by omega) (by omega)
  replace o_tsx := oss_keep o_tsx hc (by omega) (by omega)
  replace hB0 := below_chg hB0 hc (by omega) (by omega)
  clear hc
  obtain ⟨ag1, cg1, -, rfl, -⟩ := oi_shape og1
  go_wp2_with fail
  refine (eqIntS_rd r1 ag1 as1 _ _ cg1 cs1 _ (oi_rds og1) (oi_rds os1)).mono ?_
  rintro e w5 ⟨rfl, hs⟩
  have hc := chg_same hs
  clear hs
  have z5 := hc.size
  replace h_ts := rdss_chg h_ts hc (by omega) (by omega)
  replace os1 := oi_keep os1 hc (by omega) (by omega)
  replace o_tsx := oss_keep o_tsx hc (by omega) (by omega)
  replace og1 := oi_keep og1 hc (by omega) (by omega)
  replace hB0 := below_chg hB0 hc (by omega) (by omega)
  clear hc
  go_wp2_with fail
  refine (toIntSS_any ts a_ts c_ts _ _ h_ts (by omega) hsz_ts).mono ?_
  rintro e w6 ⟨v_tsy, rfl, o_tsy, hb⟩
  have hc := chg_below hb
  clear hb
  have z6 := hc.size
  replace h_ts := rdss_chg h_ts hc (by omega) (by omega)
  replace os1 := oi_keep os1 hc (by omega) (by omega)
  replace o_tsx := oss_keep o_tsx hc (by omega) (by omega)
  replace og1 := oi_keep og1 hc (by omega) (by omega)
  replace hB0 := below_chg hB0 hc (by omega) (by omega)
  clear hc
  obtain ⟨a_tsy, c_tsy, rfl, -⟩ := oss_shape o_tsy
  go_wp2_with fail
  refine (eqIntSS_rd ts a_tsx a_tsy _ _ c_tsx c_tsy _ (oss_rds o_tsx) (oss_rds o_tsy)).mono ?_
  rintro e w7 ⟨rfl, hs⟩
  have hc := chg_same hs
  clear hs
  have z7 := hc.size
  replace h_ts := rdss_chg h_ts hc (by omega) (by omega)
  replace os1 := oi_keep os1 hc (by omega) (by omega)
  replace o_tsx := oss_keep o_tsx hc (by omega) (by omega)
  replace og1 := oi_keep og1 hc (by omega) (by omega)
  replace o_tsy := oss_keep o_tsy hc (by omega) (by omega)
  replace hB0 := below_chg hB0 hc (by omega) (by omega)
  clear hc
  go_wp2_with fail
  clear o_tsy
  obtain ⟨lx0, hlx0, hsx0, hnx0⟩ := small_lens hsz_ts
  refine (markIntSS_chg lx0 ts hlx0 hsx0 hnx0 a_tsx _ _ c_tsx _ (by omega) (by omega) _ o_tsx).mono ?_
  rintro e w8 ⟨rfl, -, hc⟩
  have htx0 : offs lx0 lx0.length ≤ 1099511627776 := Nat.le_trans (offs_big lx0 hsx0 lx0.length) (by omega)
  clear hlx0 hsx0
  generalize offs lx0 lx0.length = tx0 at htx0 ⊢
  clear o_tsx
  have z8 := hc.size
  replace h_ts := rdss_chg h_ts hc (by omega) (by omega)
  replace os1 := oi_keep os1 hc (by omega) (by omega)
  replace og1 := oi_keep og1 hc (by omega) (by omega)
  replace hB0 := below_chg hB0 hc (by omega) (by omega)
  clear hc
  go_wp2_with fail
  refine (eqIntS_rd r1 ag1 as1 _ _ cg1 cs1 _ (oi_rds og1) (oi_rds os1)).mono ?_
  rintro e w9 ⟨rfl, hs⟩
  have hc := chg_same hs
  clear hs
  have z9 := hc.size
  replace h_ts := rdss_chg h_ts hc (by omega) (by omega)
  replace os1 := oi_keep os1 hc (by omega) (by omega)
  replace og1 := oi_keep og1 hc (by omega) (by omega)
  replace hB0 := below_chg hB0 hc (by omega) (by omega)
  clear hc
  go_wp2_with fail
  refine (markIntS_chg r1 ag1 _ _ cg1 1 _ og1 (by omega) (by omega)).mono ?_
  rintro e w10 ⟨rfl, om1, hc⟩
  have hlm1 : (mkd 1 r1.length r1).length = r1.length := mkd_len _ _ _ (Nat.le_refl _)
  have HLM1 := Lib.hid hlm1
  clear hlm1
  clear og1
  have z10 := hc.size
  replace h_ts := rdss_chg h_ts hc (by omega) (by omega)
  replace os1 := oi_keep os1 hc (by omega) (by omega)
  replace hB0 := below_chg hB0 hc (by omega) (by omega)
  clear hc
  go_wp2_with fail
  refine (heldIntS_rd r1 1 ag1 _ _ cg1 _ HLM1.out (oi_rds2 om1) (by omega) (by omega)).mono ?_
  rintro e w' ⟨rfl, rfl⟩
  go_wp2_with fail
  refine (toIntSS_any ts a_ts c_ts _ _ h_ts (by omega) hsz_ts).mono ?_
  rintro e w11 ⟨v_tsz, rfl, o_tsz, hb⟩
  have hc := chg_below hb
  clear hb
  have z11 := hc.size
  replace h_ts := rdss_chg h_ts hc (by omega) (by omega)
  replace os1 := oi_keep os1 hc (by omega) (by omega)
  replace om1 := oi_keep om1 hc (by omega) (by omega)
  replace hB0 := below_chg hB0 hc (by omega) (by omega)
  clear hc
  obtain ⟨a_tsz, c_tsz, rfl, rd_tsz⟩ := oss_shape o_tsz
  go_wp2_with fail
  refine (HI.out a_tsz c_tsz _ hsz_ts (rdss_mono rd_tsz (by omega))).mono ?_
  rintro e w12 ⟨vh1, rfl, oh1, hb⟩
  have hc := chg_below hb
  clear hb
  clear rd_tsz
  have z12 := hc.size
  replace h_ts := rdss_chg h_ts hc (by omega) (by omega)
  replace os1 := oi_keep os1 hc (by omega) (by omega)
  replace om1 := oi_keep om1 hc (by omega) (by omega)
  replace o_tsz := oss_keep o_tsz hc (by omega) (by omega)
  replace hB0 := below_chg hB0 hc (by omega) (by omega)
  clear hc
  obtain ⟨ah1, ch1, -, rfl, -⟩ := oi_shape oh1
  go_wp2_with fail
  clear o_tsz
  refine (eqIntS_rd r1 ah1 as1 _ _ ch1 cs1 _ (oi_rds oh1) (oi_rds os1)).mono ?_
  rintro e w13 ⟨rfl, hs⟩
  have hc := chg_same hs
  clear hs
  have z13 := hc.size
  replace h_ts := rdss_chg h_ts hc (by omega) (by omega)
  replace os1 := oi_keep os1 hc (by omega) (by omega)
  replace om1 := oi_keep om1 hc (by omega) (by omega)
  replace oh1 := oi_keep oh1 hc (by omega) (by omega)
  replace hB0 := below_chg hB0 hc (by omega) (by omega)
  clear hc
  go_wp2_with fail
  refine (heldIntS_rd r1 1 ag1 _ _ cg1 _ HLM1.out (oi_rds2 om1) (by omega) (by omega)).mono ?_
  rintro e w' ⟨rfl, rfl⟩
  go_wp2_with fail
  go_ret
  exact ⟨rfl, hB0⟩
/-- The cell in which the first walk ends. -/
theorem ff_cell {n : Nat} {xs : List Int} (h : okFindFull n xs = true) : ∃ l : Nat, l < (ci n).length ∧ valFindFull n xs = l := by
  simp only [okFindFull, Bool.and_eq_true, Int.toNat_natCast] at h
  obtain ⟨hL, hf⟩ := h
  obtain ⟨d, hd⟩ := Option.isSome_iff_exists.1 hf
  obtain ⟨hgo, k, hk⟩ := goes_border hL (List.mem_of_find?_eq_some hd)
  obtain ⟨pre, l, e1, hl, -⟩ := wfrom_last hL hgo hk
  exact ⟨l, hl, by simp [valFindFull, hL, hd, lastI, e1, lastN_app]⟩
theorem ff_fail {n : Nat} {xs : List Int} (h : okFindFull n xs = false) : valFindFull n xs = 0 := by
  simp only [okFindFull, Int.toNat_natCast] at h
  unfold valFindFull
  split
  · rename_i hL
    rw [hL, Bool.true_and] at h
    simp only [Int.toNat_natCast]
    cases hf : (bds n xs).find? (ffF xs n) with
    | none => rfl
    | some d => rw [hf] at h; cases h
  · rfl
theorem rd_other {w w' : World} {a : Option Addr} {b : Nat} {xs : List Int} (h : Rd w a b 0 xs) (hb : w'.heap[b]? = w.heap[b]?) : Rd w' a b 0 xs :=
  ⟨h.1, fun j hj => ⟨(h.2 j hj).1, (World.cell?_of_block (a := ⟨b, 0 + j, none⟩) hb).trans (h.2 j hj).2⟩⟩
/-- What stays while the model gives pieces. -/
structure SpF (w0 : World) (a2 ra : Option Addr) (b2 rb g : Nat) (xs cs L : List Int) (w : World) : Prop where
  labs : Rd w a2 b2 0 xs
  cell : Rd w ra rb 0 cs
  got : w.heap[g]? = some (.cells (shC L) 3 (0, 0))
  lt2 : b2 < g
  ltr : rb < g
  lo : w0.heap.size ≤ g
  old : Below w0.heap.size w0 w
theorem SpF.below {w0 : World} {a2 ra : Option Addr} {b2 rb g : Nat} {xs cs L : List Int} {w w' : World} (h : SpF w0 a2 ra b2 rb g xs cs L w) (hb : Below w.heap.size w w') : SpF w0 a2 ra b2 rb g xs cs L w' := by
  have hg := (Array.getElem?_eq_some_iff.1 h.got).1
  have := h.lt2
  have := h.ltr
  exact ⟨h.labs.below hb (.inr (by omega)), h.cell.below hb (.inr (by omega)), (hb.block _ hg).trans h.got, h.lt2, h.ltr, h.lo, bnext h.old hb⟩
theorem SpF.set {w0 : World} {a2 ra : Option Addr} {b2 rb g : Nat} {xs cs L : List Int} {w : World} (h : SpF w0 a2 ra b2 rb g xs cs L w) (p : Nat) (x : Int) : SpF w0 a2 ra b2 rb g xs cs (L.set p x) (w.setCell ⟨g, p, none⟩ (.int .i64 x)) := by
  have e := setCell_eq_setRow w g p (shC L) 3 (0, 0) (.int .i64 x) h.got
  have hk : ∀ k, k ≠ g → (w.setCell ⟨g, p, none⟩ (.int .i64 x)).heap[k]? = w.heap[k]? := fun k hk => by
    rw [e]
    simp only [World.setRow, Array.getElem?_modify]
    rw [if_neg (fun e => hk e.symm)]
  refine ⟨rd_other h.labs (hk _ (by have := h.lt2; omega)), rd_other h.cell (hk _ (by have := h.ltr; omega)), ?_, h.lt2, h.ltr, h.lo, h.old.setCell h.lo _⟩
  rw [e, setRow_heap w _ _ _ _ _ h.got, shC_set]
theorem clI (n l k : Nat) (hk : k < 3) : ((cl n l).map (fun (i : Nat) => (i : Int))).getD k 0 = (cq n l k : Nat) := by
  match k, hk with
  | 0, _ | 1, _ | 2, _ => rfl
set_option maxHeartbeats 3200000 in
theorem specFairCut_yes (n : Nat) (h1 : 1 ≤ n) (h2 : n ≤ 8) (ts : List (List Int)) (hy : rowsB n 9 ts = true) (l : Nat) (hl : l < (ci n).length) (hok : okFindFull n (ckl ts n) = true) (hv : valFindFull n (ckl ts n) = l) (a : Option Addr) (cap : Nat) (w : World) (h : RdSS w w.heap.size a ts) :
    Calls Try.prog 32 #[.int .i64 n, .slice a ts.length cap] w (OutFairCut w (cq n l 0 : Nat) (shp ts n (cq n l) 3) true) := by
  have hcn := (Pr.cnt_le n (by omega)).1
  have hbd := ci_bd n h2
  have HT := Lib.hid (ckTastes_yes n h1 h2 ts hy a cap _ w h)
  have HK := Lib.hid (ckLabels_any n h1 h2 ts hy a cap w h)
  have HLL := Lib.hid (ckl_len ts n)
  have HLG : Hid (∀ i, i < Pr.cnt n → (ckl ts n).getD i 0 = lbV ts n i) := Lib.hid (fun i hi => by simp [ckl, List.getD, hi])
  have HFF := Lib.hid (fun a b cap w' h hb => specFindFull n (ckl ts n) a b _ cap w' rfl h hb)
  rw [hok, hv] at HFF
  have HE := Lib.hid (ci_eq n (by omega) h1)
  have HC3 := Lib.hid (fun (w' : World) base a m cap hc => spec_cell3 (w := w') (base := base) (a := a) (m := m) (cap := cap) h2 hc hl)
  have HPT : Hid (∀ k, k < 3 → cq n l k < Pr.cnt n) := Lib.hid (fun k hk => by
    obtain ⟨-, hall⟩ := ci_cq n (by omega)
    obtain ⟨-, -, -, -, p0, p1, p2⟩ := hall l hl
    match k, hk with
    | 0, _ => exact p0
    | 1, _ => exact p1
    | 2, _ => exact p2)
  have HCI := Lib.hid (fun k hk => clI n l k hk)
  have HCL : Hid (((cl n l).map (fun (i : Nat) => (i : Int))).length = 3) := Lib.hid rfl
  have HOW := Lib.hid (fun i (hi : i < 45) w => ckOwner_any n i h1 h2 hi w)
  have HSH : Hid (∀ k p : Nat, ownr (cq n l k) = p → shp ts n (cq n l) (k + 1) = (shp ts n (cq n l) k).set p (lbV ts n (cq n l k))) := Lib.hid (fun k p h => by rw [shp, h]; rfl)
  have HSL := Lib.hid (shp_len ts n (cq n l))
  have HS0 : Hid (shp ts n (cq n l) 0 = [0, 0, 0]) := Lib.hid rfl
  have HXL : Hid ((ckl ts n).length = Pr.cnt n) := Lib.hid (ckl_len ts n)
  have hcp : 0 < Pr.cnt n := by have := HPT.out 0 (by omega); omega
  clear h hy hok hv
  generalize ckl ts n = xs at *
  generalize (cl n l).map (fun (i : Nat) => (i : Int)) = cs at *
  go_enter Try.func32, Try.ntmps32
  go_wp2_with fail
  refine HT.out.mono ?_
  rintro e w' ⟨rfl, rfl⟩
  go_wp2_with fail
  refine HK.out.mono ?_
  rintro e w2 ⟨v, rfl, ho, hb2⟩
  obtain ⟨a2, c2, b2, rfl, hr2, hbb⟩ := oi_hb ho
  have hbb : b2 < w2.heap.size := by have := HXL.out; omega
  clear ho
  go_wp2_with fail
  refine (HFF.out a2 b2 c2 w2 hr2 (.inr hbb)).mono ?_
  rintro e w3 ⟨rfl, hb3⟩
  have hr3 := hr2.below hb3 (.inr hbb)
  have hbb3 := Nat.lt_of_lt_of_le hbb hb3.size
  have hB3 := bnext hb2 hb3
  clear hr2 hb3 hbb hb2
  go_wp2_with fail
  refine (meCells_any n h1 h2 _).mono ?_
  rintro e w4 ⟨v, rfl, hc, hb4⟩
  rw [← HE.out] at hc
  obtain ⟨ca, cm, cc, rfl⟩ := cells_shape hc
  obtain ⟨rfl, g4, ra, rc, rb, rfl, c1, hrc, hrb, -, -⟩ := HC3.out _ _ _ _ _ hc
  have hrb : rb < w4.heap.size := by
    rcases hrb with e | e
    · have := (hrc.2 0 (by rw [HCL.out]; omega)).1
      rw [e] at this
      cases this
    · exact e
  have hr4 := hr3.below hb4 (.inr hbb3)
  have hbb4 := Nat.lt_of_lt_of_le hbb3 hb4.size
  have hB4 := bnext hB3 hb4
  have hli : (l : Int) < ((ci n).length : Int) := by omega
  have hK5 : SpF w a2 ra b2 rb w4.heap.size xs cs [0, 0, 0] (w4.alloc (.cells #[.int .i64 0, .int .i64 0, .int .i64 0] 3)) :=
    ⟨hr4.below (balloc (Below.refl _ _) _) (.inr hbb4), hrc.below (balloc (Below.refl _ _) _) (.inr hrb), heap_alloc_new _ _, hbb4, hrb, hB4.size, balloc hB4 _⟩
  clear hr3 hbb3 hb4 hc
  go_wp2_with fail
  generalize w4.alloc (.cells #[.int .i64 0, .int .i64 0, .int .i64 0] 3) = w5 at hK5 ⊢
  generalize w4.heap.size = g at hK5 ⊢
  go_loopw [37] (fun v37 wr => ∃ k : Nat, k ≤ 3 ∧ v37 = .int .i64 k ∧ SpF w a2 ra b2 rb g xs cs (shp ts n (cq n l) k) wr) (fun v37 _ => 3 - (intOf v37).toNat)
  case atStart => exact ⟨0, by omega, rfl, by rw [HS0.out]; exact hK5⟩
  case round =>
    obtain ⟨k, hk, rfl, hK⟩ := hrel
    obtain ⟨wi, rfl⟩ : ∃ wi : World, wi = wr := ⟨_, rfl⟩
    by_cases hlt : k < 3
    · have hki : (k : Int) < 3 := by omega
      obtain ⟨rfl, cx⟩ := hK.cell.2 k (by rw [HCL.out]; exact hlt)
      rw [HCI.out k hlt, Nat.zero_add] at cx
      have hck := HPT.out k hlt
      obtain ⟨p, hp, hop⟩ := ownr_nat (cq n l k) (by omega)
      have HSK := Lib.hid (HSH.out k p hop)
      have hsl := HSL.out k
      have how := Lib.hid (fun w => HOW.out (cq n l k) (by omega) w)
      rw [hop] at how
      have hlg := Lib.hid (HLG.out _ hck)
      generalize cq n l k = i at *
      have hii : (i : Int) < (xs.length : Int) := by rw [HXL.out]; omega
      have hpi : (p : Int) < 3 := by omega
      go_wp2_with fail
      refine wp_region_mix (fun w' => ∃ L, SpF w a2 (some ⟨rb, 0, none⟩) b2 rb g xs cs L w') [3, 9] [0, 1, 2, 4, 5, 6, 7, 3, 8, 9] (by kernel_rfl) (by kernel_rfl) (fun _ _ d _ _ h => by cases d <;> exact h) (by kernel_rfl) rfl ⟨_, hK.below (Below.refl _ _).drew⟩ ?_
      refine mix_take 0 _ ?_ rfl rfl rfl (some 41) rfl (fun w' hw' => ?hv0) ?_
      case hv0 => (go_simp; with_reducible rfl)
      simp only [Act.put, List.setIfInBounds_toArray, List.set_cons_zero, List.set_cons_succ]
      refine mix_take 1 _ ?_ rfl rfl rfl (some 42) rfl (fun w' hw' => ?hv1) ?_
      case hv1 => (go_simp; with_reducible rfl)
      simp only [Act.put, List.setIfInBounds_toArray, List.set_cons_zero, List.set_cons_succ]
      refine mix_take 2 _ ?_ rfl rfl rfl (some 43) rfl (fun w' hw' => ?hv2) ?_
      case hv2 => (go_simp; with_reducible rfl)
      simp only [Act.put, List.setIfInBounds_toArray, List.set_cons_zero, List.set_cons_succ]
      refine mix_take 4 _ ?_ rfl rfl rfl (some 45) rfl (fun w' hw' => ?hv4) ?_
      case hv4 => (go_simp; with_reducible rfl)
      simp only [Act.put, List.setIfInBounds_toArray, List.set_cons_zero, List.set_cons_succ]
      refine mix_take 5 _ ?_ rfl rfl rfl (some 46) rfl (fun w' hw' => ?hv5) ?_
      case hv5 => (go_simp; with_reducible rfl)
      simp only [Act.put, List.setIfInBounds_toArray, List.set_cons_zero, List.set_cons_succ]
      obtain ⟨rfl, -⟩ := hK.labs.2 i (by rw [HXL.out]; exact hck)
      refine mix_take 6 _ ?_ rfl rfl rfl (some 47) rfl (fun w' hw' => ?hv6) ?_
      case hv6 => (go_simp; with_reducible rfl)
      simp only [Act.put, List.setIfInBounds_toArray, List.set_cons_zero, List.set_cons_succ]
      refine mix_take 7 _ ?_ rfl rfl rfl (some 48) rfl (fun w' hw' => ?hv7) ?_
      case hv7 =>
        obtain ⟨L, hL⟩ := hw'
        have cl := (hL.labs.2 i (by rw [HXL.out]; exact hck)).2
        rw [hlg.out, Nat.zero_add] at cl
        go_simp
        with_reducible rfl
      simp only [Act.put, List.setIfInBounds_toArray, List.set_cons_zero, List.set_cons_succ]
      refine mix_call 3 _ rfl rfl rfl 71 #[.int .i64 n, .int .i64 i] (some 44) rfl ?hr3 ?_
      case hr3 => go_simp
      refine (how.out _).mono ?_
      rintro e w7 ⟨rfl, hb7⟩
      have hK7 := hK.below (((Same.refl wi).drew wi.heap.size).trans hb7)
      refine ⟨_, rfl, ⟨_, hK7⟩, ?_⟩
      simp only [Act.put, List.setIfInBounds_toArray, List.set_cons_zero, List.set_cons_succ]
      refine mix_take 8 _ ?_ rfl rfl rfl (some 49) rfl (fun w' hw' => ?hv8) ?_
      case hv8 => (go_simp; with_reducible rfl)
      simp only [Act.put, List.setIfInBounds_toArray, List.set_cons_zero, List.set_cons_succ]
      refine mix_store_cell 9 _ rfl rfl rfl _ _ _ rfl none rfl szInt g p (lbV ts n i) rfl rfl (shC (shp ts n (cq n l) k)) 3 hK7.got (by rw [shC_size hsl]; exact hp) ?_
      have hK9 := hK7.set p (lbV ts n i)
      rw [← HSK.out] at hK9
      refine ⟨⟨_, hK9⟩, ?_⟩
      simp only [Act.put]
      refine mix_done ?_
      clear hK7 hb7 cx hK
      generalize w7.setCell ⟨g, p, none⟩ (.int .i64 (lbV ts n i)) = w9 at hK9 ⊢
      go_wp2_with fail
      go_roundw
      case rel => exact ⟨k + 1, by omega, by go_num, hK9⟩
      case measure => (simp [intOf] <;> omega)
    · have hk3 : k = 3 := by omega
      subst hk3
      obtain ⟨rfl, cx⟩ := hK.cell.2 0 (by rw [HCL.out]; omega)
      rw [HCI.out 0 (by omega), Nat.zero_add] at cx
      go_wp2_with fail
      go_returns
      have ho := own_block (xs := shp ts n (cq n l) 3) (cap := 3) (et := 3) hK.lo hK.got (by simp [shC]) (HSL.out 3).symm (by simp [maxLen])
      rw [HSL.out 3] at ho
      exact ⟨_, rfl, ⟨_, by rw [HSL.out 3]; exact ho, own_lt ho⟩, hK.old⟩
set_option maxHeartbeats 800000 in
theorem specFairCut_none (n : Nat) (h1 : 1 ≤ n) (h2 : n ≤ 8) (ts : List (List Int)) (hy : rowsB n 9 ts = true) (hok : okFindFull n (ckl ts n) = false) (a : Option Addr) (cap : Nat) (w : World) (h : RdSS w w.heap.size a ts) :
    Calls Try.prog 32 #[.int .i64 n, .slice a ts.length cap] w (OutFairCut w 0 [] false) := by
  have HT := Lib.hid (ckTastes_yes n h1 h2 ts hy a cap _ w h)
  have HK := Lib.hid (ckLabels_any n h1 h2 ts hy a cap w h)
  have HFF := Lib.hid (fun a b cap w' h hb => specFindFull n (ckl ts n) a b _ cap w' rfl h hb)
  rw [hok, ff_fail hok] at HFF
  clear h hy hok
  go_enter Try.func32, Try.ntmps32
  go_wp2_with fail
  refine HT.out.mono ?_
  rintro e w' ⟨rfl, rfl⟩
  go_wp2_with fail
  refine HK.out.mono ?_
  rintro e w2 ⟨v, rfl, ho, hb⟩
  obtain ⟨a2, c2, b2, rfl, hr2, hb2⟩ := oi_hb ho
  go_wp2_with fail
  refine (HFF.out a2 b2 c2 w2 hr2 hb2).mono ?_
  rintro e w3 ⟨rfl, hb3⟩
  go_wp2_with fail
  go_returns
  exact ⟨_, rfl, oi_nil _ _ _, bnext hb hb3⟩
set_option maxHeartbeats 800000 in
theorem specFairCut_no (n : Int) (ts : List (List Int)) (hy : tstB n ts = false) (a : Option Addr) (cap B : Nat) (w : World) (h : RdSS w B a ts) :
    Calls Try.prog 32 #[.int .i64 n, .slice a ts.length cap] w (OutFairCut w 0 [] false) := by
  have HT := Lib.hid (ckTastes_no n ts hy a cap _ w h)
  clear h hy
  go_enter Try.func32, Try.ntmps32
  go_wp2_with fail
  refine HT.out.mono ?_
  rintro e w' ⟨rfl, rfl⟩
  go_wp2_with fail
  go_returns
  exact ⟨_, rfl, oi_nil _ _ _, Below.refl _ _⟩
set_option maxHeartbeats 1600000 in
theorem implFairCut_no (n : Int) (ts : List (List Int)) (hy : tstB n ts = false) (a : Option Addr) (cap : Nat) (w : World) (h : RdSS w w.heap.size a ts) :
    Calls Try.prog 33 #[.int .i64 n, .slice a ts.length cap] w (OutFairCut w 0 [] false) := by
  have HC := Lib.hid (cakeOf_fail n ts hy a cap w h)
  clear h hy
  go_enter Try.func33, Try.ntmps33
  go_wp2_with fail
  refine (HC.out).mono ?_
  rintro e w1 ⟨rfl, hb1⟩
  have hz1 := hb1.size
  go_wp2_with (first | (with_reducible refine alloc_blk zeroC run_alloc_cake rfl rfl ?_) | ((with_reducible refine store_blk blkCake rfl _ _ rfl w1.heap.size zeroC zeroC ?_ ?_ (heap_alloc_new _ _) zeroC_size zeroC_size zeroC_one w1.heap.size (Nat.le_refl _) ?_); exact rfl; exact rfl; intro w2 hg2 hb2 hk2 hz2; have hB2 : Below w.heap.size w w2 := (balloc hb1 _).trans (hb2.mono hz1)))
  go_returns
  exact ⟨_, rfl, oi_nil _ _ _, hB2⟩
set_option maxHeartbeats 1600000 in
theorem implFairCut_none (n : Nat) (h1 : 1 ≤ n) (h2 : n ≤ 8) (ts : List (List Int)) (hy : rowsB n 9 ts = true) (hok : okFindFull n (ckl ts n) = false) (a : Option Addr) (cap : Nat) (w : World) (h : RdSS w w.heap.size a ts) :
    Calls Try.prog 33 #[.int .i64 n, .slice a ts.length cap] w (OutFairCut w 0 [] false) := by
  have HC := Lib.hid (cakeOf_yes n h1 h2 ts a cap w h hy)
  have HL := Lib.hid (fun w => labels_any n h1 h2 ts hy w)
  have HFF := Lib.hid (fun a b cap w' h hb => implFindFull n (ckl ts n) a b _ cap w' rfl (ckl_small ts n h2) h hb)
  rw [hok, ff_fail hok] at HFF
  clear h hy hok
  go_enter Try.func33, Try.ntmps33
  go_wp2_with fail
  refine (HC.out).mono ?_
  rintro e w1 ⟨rfl, hb1⟩
  have hz1 := hb1.size
  go_wp2_with (first | (with_reducible refine alloc_blk zeroC run_alloc_cake rfl rfl ?_) | ((with_reducible refine store_blk blkCake rfl _ _ rfl w1.heap.size (cakeA n ts) zeroC ?_ ?_ (heap_alloc_new _ _) zeroC_size (cakeA_size _ _) (cakeA_one _ _) w1.heap.size (Nat.le_refl _) ?_); exact rfl; exact rfl; intro w2 hg2 hb2 hk2 hz2; have hB2 : Below w.heap.size w w2 := (balloc hb1 _).trans (hb2.mono hz1)) | ((with_reducible refine load_blk blkCake ?_ _ rfl (w1.heap.size) ?_ (cakeA n ts) hg2 (cakeA_size _ _) ?_); exact rfl; exact rfl; simp only [Act.put, List.setIfInBounds_toArray, List.set_cons_zero, List.set_cons_succ]))
  refine (HL.out _).mono ?_
  rintro e w3 ⟨v, rfl, ho, hb3⟩
  obtain ⟨a2, c2, b2, rfl, hr2, hbb⟩ := oi_hb ho
  have hB3 := bnext hB2 hb3
  go_wp2_with fail
  refine (HFF.out a2 b2 c2 w3 hr2 hbb).mono ?_
  rintro e w4 ⟨rfl, hb4⟩
  go_wp2_with fail
  go_returns
  exact ⟨_, rfl, oi_nil _ _ _, bnext hB3 hb4⟩
set_option maxHeartbeats 3200000 in
theorem implFairCut_yes (n : Nat) (h1 : 1 ≤ n) (h2 : n ≤ 8) (ts : List (List Int)) (hy : rowsB n 9 ts = true) (l : Nat) (hl : l < (ci n).length) (hok : okFindFull n (ckl ts n) = true) (hv : valFindFull n (ckl ts n) = l) (a : Option Addr) (cap : Nat) (w : World) (h : RdSS w w.heap.size a ts) :
    Calls Try.prog 33 #[.int .i64 n, .slice a ts.length cap] w (OutFairCut w (cq n l 0 : Nat) (shp ts n (cq n l) 3) true) := by
  have hbd := ci_bd n h2
  have HC := Lib.hid (cakeOf_yes n h1 h2 ts a cap w h hy)
  have HL := Lib.hid (fun w => labels_any n h1 h2 ts hy w)
  have HFF := Lib.hid (fun a b cap w' h hb => implFindFull n (ckl ts n) a b _ cap w' rfl (ckl_small ts n h2) h hb)
  rw [hok, hv] at HFF
  obtain ⟨-, hall⟩ := ci_cq n (by omega)
  obtain ⟨-, hx, hyy, hzz, p0, p1, p2⟩ := hall l hl
  have HFS := Lib.hid (fun w => fairSharing_any n h1 h2 ts hy (cq n l) (fun k hk => by
    match k, hk with
    | 0, _ => exact p0
    | 1, _ => exact p1
    | 2, _ => exact p2) w)
  have HSL := Lib.hid (shp_len ts n (cq n l))
  have HTA : Hid (trA (cq n l) = #[.int .i64 (cq n l 0 : Nat), .int .i64 (cq n l 1 : Nat), .int .i64 (cq n l 2 : Nat)]) := Lib.hid rfl
  clear h hy hok hv hall
  go_enter Try.func33, Try.ntmps33
  go_wp2_with fail
  refine (HC.out).mono ?_
  rintro e w1 ⟨rfl, hb1⟩
  have hz1 := hb1.size
  go_wp2_with (first | (with_reducible refine alloc_blk zeroC run_alloc_cake rfl rfl ?_) | ((with_reducible refine store_blk blkCake rfl _ _ rfl w1.heap.size (cakeA n ts) zeroC ?_ ?_ (heap_alloc_new _ _) zeroC_size (cakeA_size _ _) (cakeA_one _ _) w1.heap.size (Nat.le_refl _) ?_); exact rfl; exact rfl; intro w2 hg2 hb2 hk2 hz2; have hB2 : Below w.heap.size w w2 := (balloc hb1 _).trans (hb2.mono hz1)) | ((with_reducible refine load_blk blkCake ?_ _ rfl (w1.heap.size) ?_ (cakeA n ts) hg2 (cakeA_size _ _) ?_); exact rfl; exact rfl; simp only [Act.put, List.setIfInBounds_toArray, List.set_cons_zero, List.set_cons_succ]))
  refine (HL.out _).mono ?_
  rintro e w3 ⟨v, rfl, ho, hb3⟩
  obtain ⟨a2, c2, b2, rfl, hr2, hbb⟩ := oi_hb ho
  have hB3 := bnext hB2 hb3
  have hz2' := (Array.getElem?_eq_some_iff.1 hg2).1
  have hg3 := (hb3.block w1.heap.size hz2').trans hg2
  have hz3 := hb3.size
  clear hg2
  go_wp2_with fail
  refine (HFF.out a2 b2 c2 w3 hr2 hbb).mono ?_
  rintro e w4 ⟨rfl, hb4⟩
  have hB4 := bnext hB3 hb4
  have hg4 := (hb4.block w1.heap.size (by omega)).trans hg3
  have hz4 := hb4.size
  have c0 := blk_cell hg4 0 _ (cakeF_zero n (tv ts))
  clear hb4 hg3 hb3 hr2 ho
  go_wp2_with fail
  refine (cells_any n h1 h2 _).mono ?_
  rintro e w5 ⟨v, rfl, htr, hb5⟩
  obtain ⟨hfl, a', cap', b, rfl, hrd⟩ := trio_shape htr
  obtain ⟨rfl, d0⟩ := hrd (l * 3) (by omega)
  have d1 := (hrd (l * 3 + 1) (by omega)).2
  have d2 := (hrd (l * 3 + 2) (by omega)).2
  rw [hx] at d0
  rw [hyy] at d1
  rw [hzz] at d2
  have hB5 := bnext hB4 hb5
  have hg5 := (hb5.block w1.heap.size (by omega)).trans hg4
  have hz5 := hb5.size
  have hli : (l : Int) < ((ci n).length : Int) := by omega
  clear hrd hfl htr hb5 hg4 c0
  go_wp2_with (first
    | ((with_reducible refine alloc_blk (shC [0, 0, 0]) run_alloc_trio rfl rfl ?_))
    | ((with_reducible refine store_blk blkTrio rfl _ _ rfl w5.heap.size (trA (cq n l)) (shC [0, 0, 0]) ?_ ?_ (heap_alloc_new _ _) rfl rfl (trA_one _) w5.heap.size (Nat.le_refl _) ?_); exact rfl; exact rfl; intro w6 hg6 hb6 hk6 hz6; have hB56 := ((balloc (Below.refl w5.heap.size w5) (.cells (shC [0, 0, 0]) 93)).trans hb6); have hg6' := (hB56.block w1.heap.size (by omega)).trans hg5)
    | ((with_reducible refine load_blk blkCake ?_ _ rfl (w1.heap.size) ?_ (cakeA n ts) hg6' (cakeA_size _ _) ?_); exact rfl; exact rfl; simp only [Act.put, List.setIfInBounds_toArray, List.set_cons_zero, List.set_cons_succ])
    | ((with_reducible refine load_blk blkTrio ?_ _ rfl (w5.heap.size) ?_ (trA (cq n l)) hg6 rfl ?_); exact rfl; exact rfl; simp only [Act.put, List.setIfInBounds_toArray, List.set_cons_zero, List.set_cons_succ]))
  refine (HFS.out _).mono ?_
  rintro e w7 ⟨rfl, hb7⟩
  have hz6' := (Array.getElem?_eq_some_iff.1 hg6).1
  have hg7 := (hb7.block w5.heap.size hz6').trans hg6
  have hB7 := bnext (bnext hB5 hB56) hb7
  have e0 := blk_cell hg7 0 (.int .i64 (cq n l 0 : Nat)) rfl
  have hz7 := hb7.size
  clear hb7 hg6 hg6' hB56 hb6 hk6 hz6 hg5
  go_wp2_with (first
    | ((with_reducible refine alloc_blk (shC [0, 0, 0]) run_alloc_shr rfl rfl ?_))
    | ((with_reducible refine store_blk blkShr rfl _ _ rfl w7.heap.size (shC (shp ts n (cq n l) 3)) (shC [0, 0, 0]) ?_ ?_ (heap_alloc_new _ _) rfl (shC_size (HSL.out 3)) (shC_one _) w7.heap.size (Nat.le_refl _) ?_); exact rfl; exact rfl; intro w8 hg8 hb8 hk8 hz8))
  have hB78 := ((balloc (Below.refl w7.heap.size w7) (.cells (shC [0, 0, 0]) 95)).trans hb8)
  have e8 := (hB78.cell (p := ⟨w5.heap.size, 0, none⟩) (by show w5.heap.size < _; omega)).trans e0
  have hB8 := bnext hB7 hB78
  clear e0 hb8 hk8 hz8 hg7
  go_quiet (fail)
  go_wp2_with fail
  go_returns
  have ho := own_block (xs := shp ts n (cq n l) 3) (cap := 3) (et := 95) (base := w.heap.size) (w := w8) hB7.size hg8 (by simp [shC]) (HSL.out 3).symm (by simp [maxLen])
  rw [HSL.out 3] at ho
  refine ⟨_, rfl, ⟨95, ?_, ?_⟩, below_drewN hB8 _⟩
  · rw [HSL.out 3]
    exact own_now ho (below_drewN (Below.refl _ _) _)
  · exact fun k hk => own_lt ho k hk
theorem law_FairCut (w : World) (n : Int) (_ : (Lit.int .i64 n).wf = true) (ts : List (List Int)) (a_ts : Option Addr) (c_ts : Nat) (h_ts : RdSS w w.heap.size a_ts ts) :
    Calls Try.prog 8 #[.int .i64 n, .slice a_ts ts.length c_ts] w fun e w' => e = .returned (.bool true) ∧ Below w.heap.size w w' := by
  cases h : tstB n ts
  · exact lawOf_FairCut n ts a_ts c_ts w h_ts _ _ _ (by simp) (fun a c w' _ h' => specFairCut_no n ts h a c _ w' h') (fun a c w' _ h' => implFairCut_no n ts h a c w' h')
  · obtain ⟨n, rfl, h1, h2, hy⟩ := tstB_yes h
    cases hok : okFindFull n (ckl ts n)
    · exact lawOf_FairCut n ts a_ts c_ts w h_ts _ _ _ (by simp) (fun a c w' _ h => specFairCut_none n h1 h2 ts hy hok a c w' h) (fun a c w' _ h => implFairCut_none n h1 h2 ts hy hok a c w' h)
    · obtain ⟨l, hl, hv⟩ := ff_cell hok
      exact lawOf_FairCut n ts a_ts c_ts w h_ts _ _ _ (by rw [shp_len]; omega) (fun a c w' _ h => specFairCut_yes n h1 h2 ts hy l hl hok hv a c w' h) (fun a c w' _ h => implFairCut_yes n h1 h2 ts hy l hl hok hv a c w' h)
end Go.Proofs.Ytgloelhpnhofgaa
