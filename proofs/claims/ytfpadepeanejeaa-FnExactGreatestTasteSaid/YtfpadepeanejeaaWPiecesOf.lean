import Derived.Test.YtfpadepeanejeaaMb4
namespace Go.Proofs.Ytfpadepeanejeaa
open Go.RowKit
set_option maxRecDepth 4000
def OutPiecesOf (w : World) (r0 : List Int) (r1 : Bool) (e : Ending) (w' : World) : Prop := ∃ v0, e = .returned (.tuple #[v0, .bool r1]) ∧ OI w' w.heap.size w'.heap.size v0 r0 ∧ Below w.heap.size w w'
set_option maxHeartbeats 3200000 in
theorem lawOf_PiecesOf (n : Int) (ts : List (List Int)) (a_ts : Option Addr) (c_ts : Nat) (person : Int) (i : Int) (w : World) (h_ts : RdSS w w.heap.size a_ts ts) (r0 : List Int) (r1 : Bool) (hL0 : r0.length ≤ 100000)
    (hs : ∀ (a_ts' : Option Addr) (c_ts' : Nat) (w' : World), SmallSS ts → RdSS w' w'.heap.size a_ts' ts → Calls Try.prog 16 #[.int .i64 n, .slice a_ts' ts.length c_ts', .int .i64 person, .int .i64 i] w' (OutPiecesOf w' r0 r1))
    (hi : ∀ (a_ts' : Option Addr) (c_ts' : Nat) (w' : World), SmallSS ts → RdSS w' w'.heap.size a_ts' ts → Calls Try.prog 17 #[.int .i64 n, .slice a_ts' ts.length c_ts', .int .i64 person, .int .i64 i] w' (OutPiecesOf w' r0 r1)) :
    Calls Try.prog 4 #[.int .i64 n, .slice a_ts ts.length c_ts, .int .i64 person, .int .i64 i] w fun e w' => e = .returned (.bool true) ∧ Below w.heap.size w w' := by
  have HS := Lib.hid hs
  have HI := Lib.hid hi
  clear hs hi
  have hne1 : (r1 != r1) = false := by simp
  have hB0 : Below w.heap.size w w := Below.refl _ _
  go_enter Try.func4, Try.ntmps4
  go_wp2_with fail
  refine (szIntSS_any ts a_ts c_ts _ _ (by omega) (by omega) w h_ts).mono ?_
  rintro e w' ⟨l1, rfl, rfl, hl⟩
  rcases hl with hl | ⟨hl0_0, hl1_0, hsz_ts⟩
  · go_wp2_with fail
    go_ret
    exact ⟨rfl, Below.refl _ _⟩
  go_wp2_with fail
  refine (toIntSS_any ts a_ts c_ts _ _ h_ts (by omega) hsz_ts).mono ?_
  rintro e w1 ⟨v_tsp, rfl, o_tsp, hb⟩
  have hc := chg_below hb
  clear hb
  have z1 := hc.size
  replace h_ts := rdss_chg h_ts hc (by omega) (by omega)
  replace hB0 := below_chg hB0 hc (by omega) (by omega)
  clear hc
  obtain ⟨a_tsp, c_tsp, rfl, rd_tsp⟩ := oss_shape o_tsp
  go_wp2_with fail
  refine (HS.out a_tsp c_tsp _ hsz_ts (rdss_mono rd_tsp (by omega))).mono ?_
  rintro e w2 ⟨vs0, rfl, os0, hb⟩
  have hc := chg_below hb
  clear hb
  clear rd_tsp
  have z2 := hc.size
  replace h_ts := rdss_chg h_ts hc (by omega) (by omega)
  replace o_tsp := oss_keep o_tsp hc (by omega) (by omega)
  replace hB0 := below_chg hB0 hc (by omega) (by omega)
  clear hc
  obtain ⟨as0, cs0, -, rfl, -⟩ := oi_shape os0
  go_wp2_with fail
  clear o_tsp
  refine (toIntSS_any ts a_ts c_ts _ _ h_ts (by omega) hsz_ts).mono ?_
  rintro e w3 ⟨v_tsx, rfl, o_tsx, hb⟩
  have hc := chg_below hb
  clear hb
  have z3 := hc.size
  replace h_ts := rdss_chg h_ts hc (by omega) (by omega)
  replace os0 := oi_keep os0 hc (by omega) (by omega)
  replace hB0 := below_chg hB0 hc (by omega) (by omega)
  clear hc
  obtain ⟨a_tsx, c_tsx, rfl, rd_tsx⟩ := oss_shape o_tsx
  go_wp2_with fail
  refine (HI.out a_tsx c_tsx _ hsz_ts (rdss_mono rd_tsx (by omega))).mono ?_
  rintro e w4 ⟨vg0, rfl, og0, hb⟩
  have hc := chg_below hb
  clear hb
  clear rd_tsx
  have z4 := hc.size
  replace h_ts := rdss_chg h_ts hc (by omega) (by omega)
  replace os0 := oi_keep os0 hc (by omega) (by omega)
  replace o_tsx := oss_keep o_tsx hc (by omega) (by omega)
  replace hB0 := below_chg hB0 hc (by omega) (by omega)
  clear hc
  obtain ⟨ag0, cg0, -, rfl, -⟩ := oi_shape og0
  go_wp2_with fail
  refine (eqIntS_rd r0 ag0 as0 _ _ cg0 cs0 _ (oi_rds og0) (oi_rds os0)).mono ?_
  rintro e w5 ⟨rfl, hs⟩
  have hc := chg_same hs
  clear hs
  have z5 := hc.size
  replace h_ts := rdss_chg h_ts hc (by omega) (by omega)
  replace os0 := oi_keep os0 hc (by omega) (by omega)
  replace o_tsx := oss_keep o_tsx hc (by omega) (by omega)
  replace og0 := oi_keep og0 hc (by omega) (by omega)
  replace hB0 := below_chg hB0 hc (by omega) (by omega)
  clear hc
  go_wp2_with fail
  refine (toIntSS_any ts a_ts c_ts _ _ h_ts (by omega) hsz_ts).mono ?_
  rintro e w6 ⟨v_tsy, rfl, o_tsy, hb⟩
  have hc := chg_below hb
  clear hb
  have z6 := hc.size
  replace h_ts := rdss_chg h_ts hc (by omega) (by omega)
  replace os0 := oi_keep os0 hc (by omega) (by omega)
  replace o_tsx := oss_keep o_tsx hc (by omega) (by omega)
  replace og0 := oi_keep og0 hc (by omega) (by omega)
  replace hB0 := below_chg hB0 hc (by omega) (by omega)
  clear hc
  obtain ⟨a_tsy, c_tsy, rfl, -⟩ := oss_shape o_tsy
  go_wp2_with fail
  refine (eqIntSS_rd ts a_tsx a_tsy _ _ c_tsx c_tsy _ (oss_rds o_tsx) (oss_rds o_tsy)).mono ?_
  rintro e w7 ⟨rfl, hs⟩
  have hc := chg_same hs
  clear hs
  have z7 := hc.size
  replace h_ts := rdss_chg h_ts hc (by omega) (by omega)
  replace os0 := oi_keep os0 hc (by omega) (by omega)
  replace o_tsx := oss_keep o_tsx hc (by omega) (by omega)
  replace og0 := oi_keep og0 hc (by omega) (by omega)
  replace o_tsy := oss_keep o_tsy hc (by omega) (by omega)
  replace hB0 := below_chg hB0 hc (by omega) (by omega)
  clear hc
  go_wp2_with fail
  clear o_tsy
  obtain ⟨lx0, hlx0, hsx0, hnx0⟩ := small_lens hsz_ts
  refine (markIntSS_chg lx0 ts hlx0 hsx0 hnx0 a_tsx _ _ c_tsx _ (by omega) (by omega) _ o_tsx).mono ?_
  rintro e w8 ⟨rfl, -, hc⟩
  have htx0 : offs lx0 lx0.length ≤ 1099511627776 := Nat.le_trans (offs_big lx0 hsx0 lx0.length) (by omega)
  clear hlx0 hsx0
  generalize offs lx0 lx0.length = tx0 at htx0 ⊢
  clear o_tsx
  have z8 := hc.size
  replace h_ts := rdss_chg h_ts hc (by omega) (by omega)
  replace os0 := oi_keep os0 hc (by omega) (by omega)
  replace og0 := oi_keep og0 hc (by omega) (by omega)
  replace hB0 := below_chg hB0 hc (by omega) (by omega)
  clear hc
  go_wp2_with fail
  refine (eqIntS_rd r0 ag0 as0 _ _ cg0 cs0 _ (oi_rds og0) (oi_rds os0)).mono ?_
  rintro e w9 ⟨rfl, hs⟩
  have hc := chg_same hs
  clear hs
  have z9 := hc.size
  replace h_ts := rdss_chg h_ts hc (by omega) (by omega)
  replace os0 := oi_keep os0 hc (by omega) (by omega)
  replace og0 := oi_keep og0 hc (by omega) (by omega)
  replace hB0 := below_chg hB0 hc (by omega) (by omega)
  clear hc
  go_wp2_with fail
  refine (markIntS_chg r0 ag0 _ _ cg0 1 _ og0 (by omega) (by omega)).mono ?_
  rintro e w10 ⟨rfl, om0, hc⟩
  have hlm0 : (mkd 1 r0.length r0).length = r0.length := mkd_len _ _ _ (Nat.le_refl _)
  have HLM0 := Lib.hid hlm0
  clear hlm0
  clear og0
  have z10 := hc.size
  replace h_ts := rdss_chg h_ts hc (by omega) (by omega)
  replace os0 := oi_keep os0 hc (by omega) (by omega)
  replace hB0 := below_chg hB0 hc (by omega) (by omega)
  clear hc
  go_wp2_with fail
  refine (heldIntS_rd r0 1 ag0 _ _ cg0 _ HLM0.out (oi_rds2 om0) (by omega) (by omega)).mono ?_
  rintro e w' ⟨rfl, rfl⟩
  go_wp2_with fail
  refine (toIntSS_any ts a_ts c_ts _ _ h_ts (by omega) hsz_ts).mono ?_
  rintro e w11 ⟨v_tsz, rfl, o_tsz, hb⟩
  have hc := chg_below hb
  clear hb
  have z11 := hc.size
  replace h_ts := rdss_chg h_ts hc (by omega) (by omega)
  replace os0 := oi_keep os0 hc (by omega) (by omega)
  replace om0 := oi_keep om0 hc (by omega) (by omega)
  replace hB0 := below_chg hB0 hc (by omega) (by omega)
  clear hc
  obtain ⟨a_tsz, c_tsz, rfl, rd_tsz⟩ := oss_shape o_tsz
  go_wp2_with fail
  refine (HI.out a_tsz c_tsz _ hsz_ts (rdss_mono rd_tsz (by omega))).mono ?_
  rintro e w12 ⟨vh0, rfl, oh0, hb⟩
  have hc := chg_below hb
  clear hb
  clear rd_tsz
  have z12 := hc.size
  replace h_ts := rdss_chg h_ts hc (by omega) (by omega)
  replace os0 := oi_keep os0 hc (by omega) (by omega)
  replace om0 := oi_keep om0 hc (by omega) (by omega)
  replace o_tsz := oss_keep o_tsz hc (by omega) (by omega)
  replace hB0 := below_chg hB0 hc (by omega) (by omega)
  clear hc
  obtain ⟨ah0, ch0, -, rfl, -⟩ := oi_shape oh0
  go_wp2_with fail
  clear o_tsz
  refine (eqIntS_rd r0 ah0 as0 _ _ ch0 cs0 _ (oi_rds oh0) (oi_rds os0)).mono ?_
  rintro e w13 ⟨rfl, hs⟩
  have hc := chg_same hs
  clear hs
  have z13 := hc.size
  replace h_ts := rdss_chg h_ts hc (by omega) (by omega)
  replace os0 := oi_keep os0 hc (by omega) (by omega)
  replace om0 := oi_keep om0 hc (by omega) (by omega)
  replace oh0 := oi_keep oh0 hc (by omega) (by omega)
  replace hB0 := below_chg hB0 hc (by omega) (by omega)
  clear hc
  go_wp2_with fail
  refine (heldIntS_rd r0 1 ag0 _ _ cg0 _ HLM0.out (oi_rds2 om0) (by omega) (by omega)).mono ?_
  rintro e w' ⟨rfl, rfl⟩
  go_wp2_with fail
  go_ret
  exact ⟨rfl, hB0⟩
def okC (n : Int) (ts : List (List Int)) (i : Int) : Prop := tstB n ts = true ∧ Pr.okPt n i
def okP (p : Int) : Prop := 0 ≤ p ∧ p ≤ 2
theorem isPerson_yes (p : Int) (h : okP p) (w : World) : Calls Try.prog 44 #[.int .i64 p] w fun e w' => e = .returned (.bool true) ∧ w = w' := by
  obtain ⟨h1, h2⟩ := h
  have h3 : p < 3 := by omega
  go_enter Try.func44, Try.ntmps44
  go_wp2_with fail
  go_ret
  exact ⟨ret_bool (by simp <;> omega), rfl⟩
theorem isPerson_no (p : Int) (h : ¬ okP p) (w : World) : Calls Try.prog 44 #[.int .i64 p] w fun e w' => e = .returned (.bool false) ∧ w = w' := by
  by_cases h1 : 0 ≤ p
  · have h3 : ¬ p < 3 := fun h3 => h ⟨h1, by omega⟩
    clear h
    go_enter Try.func44, Try.ntmps44
    go_wp2_with fail
    go_ret
    exact ⟨ret_bool (by simp <;> omega), rfl⟩
  · clear h
    go_enter Try.func44, Try.ntmps44
    go_wp2_with fail
    go_ret
    exact ⟨ret_bool (by simp), rfl⟩
theorem ckPerson_yes (p : Int) (h : okP p) (w : World) : Calls Try.prog 40 #[.int .i64 p] w fun e w' => e = .returned (.bool true) ∧ w = w' := by
  go_enter Try.func40, Try.ntmps40
  go_wp2_with fail
  refine (l1In_yes p 0 2 h _).mono ?_
  rintro e w' ⟨rfl, rfl⟩
  go_wp2_with fail
  go_ret
  exact ⟨rfl, rfl⟩
theorem ckPerson_no (p : Int) (h : ¬ okP p) (w : World) : Calls Try.prog 40 #[.int .i64 p] w fun e w' => e = .returned (.bool false) ∧ w = w' := by
  have H := Lib.hid h
  clear h
  go_enter Try.func40, Try.ntmps40
  go_wp2_with fail
  refine (l1In_no p 0 2 H.out _).mono ?_
  rintro e w' ⟨rfl, rfl⟩
  go_wp2_with fail
  go_ret
  exact ⟨rfl, rfl⟩
set_option maxHeartbeats 800000 in
theorem specPiecesOf_yes (n p i : Nat) (h1 : 1 ≤ n) (h2 : n ≤ 8) (hp : p < 3) (hi : i < Pr.cnt n) (ts : List (List Int)) (hy : rowsB n 9 ts = true) (a : Option Addr) (cap : Nat) (w : World) (h : RdSS w w.heap.size a ts) :
    Calls Try.prog 16 #[.int .i64 n, .slice a ts.length cap, .int .i64 p, .int .i64 i] w (OutPiecesOf w (pcs (ts.getD p []) n i) true) := by
  have hT : tstB n ts = true := by simp [tstB, hy]; omega
  obtain ⟨hl3, hrow⟩ := rowsB_at hy
  obtain ⟨htl, hta⟩ := hrow p (by omega)
  have H := Lib.hid (ckTastes_any n ts a cap w.heap.size w h)
  have HT := Lib.hid hT
  have HTL := Lib.hid htl
  have HTA := Lib.hid hta
  obtain ⟨hm, b, off, hr⟩ := h
  obtain ⟨ha, hbl, ra, rc, c1, hrs⟩ := hr p (by omega)
  subst ha
  have HR := Lib.hid hrs
  have hpi : (p : Int) < (ts.length : Int) := by omega
  clear hr hrow hl3 hy hT hrs htl hta
  generalize ts.getD p [] = t at *
  go_enter Try.func16, Try.ntmps16
  go_wp2_with fail
  refine H.out.mono ?_
  rintro e w' ⟨rfl, rfl⟩
  rw [HT.out]
  go_wp2_with fail
  refine (ckPerson_yes p ⟨by omega, by omega⟩ _).mono ?_
  rintro e w' ⟨rfl, rfl⟩
  go_wp2_with fail
  refine (mePoint_yes n i h1 h2 hi _).mono ?_
  rintro e w' ⟨rfl, rfl⟩
  go_wp2_with fail
  refine (ckPieces_any n i h1 h2 hi t HTL.out HTA.out ra rc w HR.out).mono ?_
  rintro e w2 ⟨v, rfl, ho, hb⟩
  obtain ⟨a2, c2, b2, rfl, -, -⟩ := oi_shape ho
  go_wp2_with fail
  go_returns
  exact ⟨_, rfl, ho, hb⟩
set_option maxHeartbeats 800000 in
theorem specPiecesOf_no (n p i : Int) (ts : List (List Int)) (hno : ¬ (okC n ts i ∧ okP p)) (a : Option Addr) (cap B : Nat) (w : World) (h : RdSS w B a ts) :
    Calls Try.prog 16 #[.int .i64 n, .slice a ts.length cap, .int .i64 p, .int .i64 i] w (OutPiecesOf w [] false) := by
  have H := Lib.hid (ckTastes_any n ts a cap B w h)
  have HNO := Lib.hid hno
  clear h hno
  have hend : OI w w.heap.size w.heap.size (.slice none 0 0) [] := oi_nil _ _ _
  have HE := Lib.hid hend
  clear hend
  go_enter Try.func16, Try.ntmps16
  go_wp2_with fail
  refine H.out.mono ?_
  rintro e w' ⟨rfl, rfl⟩
  cases hT : tstB n ts
  · clear hT
    go_wp2_with fail
    go_returns
    exact ⟨_, rfl, HE.out, Below.refl _ _⟩
  · have HT := Lib.hid hT
    clear hT
    go_wp2_with fail
    by_cases hp : okP p
    · refine (ckPerson_yes p hp _).mono ?_
      rintro e w' ⟨rfl, rfl⟩
      have hi : ¬ Pr.okPt n i := fun hi => HNO.out ⟨⟨HT.out, hi⟩, hp⟩
      have HI := Lib.hid hi
      clear hi hp
      go_wp2_with fail
      refine (mePoint_no n i HI.out _).mono ?_
      rintro e w' ⟨rfl, rfl⟩
      go_wp2_with fail
      go_returns
      exact ⟨_, rfl, HE.out, Below.refl _ _⟩
    · refine (ckPerson_no p hp _).mono ?_
      rintro e w' ⟨rfl, rfl⟩
      clear hp
      go_wp2_with fail
      go_returns
      exact ⟨_, rfl, HE.out, Below.refl _ _⟩
end Go.Proofs.Ytfpadepeanejeaa
