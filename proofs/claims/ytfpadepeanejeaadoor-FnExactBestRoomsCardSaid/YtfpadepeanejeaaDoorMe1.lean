import Derived.RegionTactic
import Derived.Test.YtfpadepeanejeaaDoorMd9
namespace Go.Proofs.YtfpadepeanejeaaDoor
open Go.RowKit
set_option maxRecDepth 4000
def OutBestRooms (w : World) (r0 : List Int) (r1 : Bool) (e : Ending) (w' : World) : Prop := ∃ v0, e = .returned (.tuple #[v0, .bool r1]) ∧ OI w' w.heap.size w'.heap.size v0 r0 ∧ Below w.heap.size w w'
set_option maxHeartbeats 3200000 in
theorem lawOf_BestRooms (ws : List (List Int)) (a_ws : Option Addr) (c_ws : Nat) (w : World) (h_ws : RdSS w w.heap.size a_ws ws) (hvar : ShV w) (r0 : List Int) (r1 : Bool) (hL0 : r0.length ≤ 100000)
    (hs : ∀ (a_ws' : Option Addr) (c_ws' : Nat) (w' : World), SmallSS ws → RdSS w' w'.heap.size a_ws' ws → Calls Tryd.prog 18 #[.slice a_ws' ws.length c_ws'] w' (OutBestRooms w' r0 r1))
    (hi : ∀ (a_ws' : Option Addr) (c_ws' : Nat) (w' : World), SmallSS ws → ShV w' → RdSS w' w'.heap.size a_ws' ws → Calls Tryd.prog 19 #[.slice a_ws' ws.length c_ws'] w' (OutBestRooms w' r0 r1)) :
    Calls Tryd.prog 6 #[.slice a_ws ws.length c_ws] w fun e w' => e = .returned (.bool true) ∧ Below w.heap.size w w' := by
  have HS := Lib.hid hs
  have HI := Lib.hid hi
  clear hs hi
  have HV := Lib.hid hvar
  clear hvar
  have hne1 : (r1 != r1) = false := by simp
  have hB0 : Below w.heap.size w w := Below.refl _ _
  go_enter Tryd.func6, Tryd.ntmps6
  go_wp2_with fail
  refine (szIntSS_any ws a_ws c_ws _ 1048576 (by omega) (by omega) w h_ws).mono ?_
  rintro e w' ⟨l1, rfl, rfl, hl⟩
  rcases hl with hl | ⟨hl0_0, hl1_0, hsz_ws⟩
  · go_wp2_with fail
    go_ret
    exact ⟨rfl, Below.refl _ _⟩
  go_wp2_with fail
  refine (toIntSS_any ws a_ws c_ws _ _ h_ws (by omega) hsz_ws).mono ?_
  rintro e w1 ⟨v_wsp, rfl, o_wsp, hb⟩
  have hc := chg_below hb
  clear hb
  have z1 := hc.size
  replace h_ws := rdss_chg h_ws hc (by omega) (by omega)
  replace hB0 := below_chg hB0 hc (by omega) (by omega)
  clear hc
  obtain ⟨a_wsp, c_wsp, rfl, rd_wsp⟩ := oss_shape o_wsp
  go_wp2_with fail
  refine (HS.out a_wsp c_wsp _ hsz_ws (rdss_mono rd_wsp (by omega))).mono ?_
  rintro e w2 ⟨vs0, rfl, os0, hb⟩
  have hc := chg_below hb
  clear hb
  clear rd_wsp
  have z2 := hc.size
  replace h_ws := rdss_chg h_ws hc (by omega) (by omega)
  replace o_wsp := oss_keep o_wsp hc (by omega) (by omega)
  replace hB0 := below_chg hB0 hc (by omega) (by omega)
  clear hc
  obtain ⟨as0, cs0, -, rfl, -⟩ := oi_shape os0
  go_wp2_with fail
  clear o_wsp
  refine (toIntSS_any ws a_ws c_ws _ _ h_ws (by omega) hsz_ws).mono ?_
  rintro e w3 ⟨v_wsx, rfl, o_wsx, hb⟩
  have hc := chg_below hb
  clear hb
  have z3 := hc.size
  replace h_ws := rdss_chg h_ws hc (by omega) (by omega)
  replace os0 := oi_keep os0 hc (by omega) (by omega)
  replace hB0 := below_chg hB0 hc (by omega) (by omega)
  clear hc
  obtain ⟨a_wsx, c_wsx, rfl, rd_wsx⟩ := oss_shape o_wsx
  go_wp2_with fail
  refine (HI.out a_wsx c_wsx _ hsz_ws (ShV_later HV.out hB0) (rdss_mono rd_wsx (by omega))).mono ?_
  rintro e w4 ⟨vg0, rfl, og0, hb⟩
  have hc := chg_below hb
  clear hb
  clear rd_wsx
  have z4 := hc.size
  replace h_ws := rdss_chg h_ws hc (by omega) (by omega)
  replace os0 := oi_keep os0 hc (by omega) (by omega)
  replace o_wsx := oss_keep o_wsx hc (by omega) (by omega)
  replace hB0 := below_chg hB0 hc (by omega) (by omega)
  clear hc
  obtain ⟨ag0, cg0, -, rfl, -⟩ := oi_shape og0
  go_wp2_with fail
  refine (eqIntS_rd r0 ag0 as0 _ _ cg0 cs0 _ (oi_rds og0) (oi_rds os0)).mono ?_
  rintro e w5 ⟨rfl, hs⟩
  have hc := chg_same hs
  clear hs
  have z5 := hc.size
  replace h_ws := rdss_chg h_ws hc (by omega) (by omega)
  replace os0 := oi_keep os0 hc (by omega) (by omega)
  replace o_wsx := oss_keep o_wsx hc (by omega) (by omega)
  replace og0 := oi_keep og0 hc (by omega) (by omega)
  replace hB0 := below_chg hB0 hc (by omega) (by omega)
  clear hc
  go_wp2_with fail
  refine (toIntSS_any ws a_ws c_ws _ _ h_ws (by omega) hsz_ws).mono ?_
  rintro e w6 ⟨v_wsy, rfl, o_wsy, hb⟩
  have hc := chg_below hb
  clear hb
  have z6 := hc.size
  replace h_ws := rdss_chg h_ws hc (by omega) (by omega)
  replace os0 := oi_keep os0 hc (by omega) (by omega)
  replace o_wsx := oss_keep o_wsx hc (by omega) (by omega)
  replace og0 := oi_keep og0 hc (by omega) (by omega)
  replace hB0 := below_chg hB0 hc (by omega) (by omega)
  clear hc
  obtain ⟨a_wsy, c_wsy, rfl, -⟩ := oss_shape o_wsy
  go_wp2_with fail
  refine (eqIntSS_rd ws a_wsx a_wsy _ _ c_wsx c_wsy _ (oss_rds o_wsx) (oss_rds o_wsy)).mono ?_
  rintro e w7 ⟨rfl, hs⟩
  have hc := chg_same hs
  clear hs
  have z7 := hc.size
  replace h_ws := rdss_chg h_ws hc (by omega) (by omega)
  replace os0 := oi_keep os0 hc (by omega) (by omega)
  replace o_wsx := oss_keep o_wsx hc (by omega) (by omega)
  replace og0 := oi_keep og0 hc (by omega) (by omega)
  replace o_wsy := oss_keep o_wsy hc (by omega) (by omega)
  replace hB0 := below_chg hB0 hc (by omega) (by omega)
  clear hc
  go_wp2_with fail
  clear o_wsy
  obtain ⟨lx0, hlx0, hsx0, hnx0⟩ := small_lens hsz_ws
  refine (markIntSS_chg lx0 ws hlx0 hsx0 hnx0 a_wsx _ _ c_wsx _ (by omega) (by omega) _ o_wsx).mono ?_
  rintro e w8 ⟨rfl, -, hc⟩
  have htx0 : offs lx0 lx0.length ≤ 1099511627776 := Nat.le_trans (offs_big lx0 hsx0 lx0.length) (by omega)
  clear hlx0 hsx0
  generalize offs lx0 lx0.length = tx0 at htx0 ⊢
  clear o_wsx
  have z8 := hc.size
  replace h_ws := rdss_chg h_ws hc (by omega) (by omega)
  replace os0 := oi_keep os0 hc (by omega) (by omega)
  replace og0 := oi_keep og0 hc (by omega) (by omega)
  replace hB0 := below_chg hB0 hc (by omega) (by omega)
  clear hc
  go_wp2_with fail
  refine (eqIntS_rd r0 ag0 as0 _ _ cg0 cs0 _ (oi_rds og0) (oi_rds os0)).mono ?_
  rintro e w9 ⟨rfl, hs⟩
  have hc := chg_same hs
  clear hs
  have z9 := hc.size
  replace h_ws := rdss_chg h_ws hc (by omega) (by omega)
  replace os0 := oi_keep os0 hc (by omega) (by omega)
  replace og0 := oi_keep og0 hc (by omega) (by omega)
  replace hB0 := below_chg hB0 hc (by omega) (by omega)
  clear hc
  go_wp2_with fail
  refine (markIntS_chg r0 ag0 _ _ cg0 1 _ og0 (by omega) (by omega)).mono ?_
  rintro e w10 ⟨rfl, om0, hc⟩
  have hlm0 : (mkd 1 r0.length r0).length = r0.length := mkd_len _ _ _ (Nat.le_refl _)
  have HLM0 := Lib.hid hlm0
  clear hlm0
  clear og0
  have z10 := hc.size
  replace h_ws := rdss_chg h_ws hc (by omega) (by omega)
  replace os0 := oi_keep os0 hc (by omega) (by omega)
  replace hB0 := below_chg hB0 hc (by omega) (by omega)
  clear hc
  go_wp2_with fail
  refine (heldIntS_rd r0 1 ag0 _ _ cg0 _ HLM0.out (oi_rds2 om0) (by omega) (by omega)).mono ?_
  rintro e w' ⟨rfl, rfl⟩
  go_wp2_with fail
  refine (toIntSS_any ws a_ws c_ws _ _ h_ws (by omega) hsz_ws).mono ?_
  rintro e w11 ⟨v_wsz, rfl, o_wsz, hb⟩
  have hc := chg_below hb
  clear hb
  have z11 := hc.size
  replace h_ws := rdss_chg h_ws hc (by omega) (by omega)
  replace os0 := oi_keep os0 hc (by omega) (by omega)
  replace om0 := oi_keep om0 hc (by omega) (by omega)
  replace hB0 := below_chg hB0 hc (by omega) (by omega)
  clear hc
  obtain ⟨a_wsz, c_wsz, rfl, rd_wsz⟩ := oss_shape o_wsz
  go_wp2_with fail
  refine (HI.out a_wsz c_wsz _ hsz_ws (ShV_later HV.out hB0) (rdss_mono rd_wsz (by omega))).mono ?_
  rintro e w12 ⟨vh0, rfl, oh0, hb⟩
  have hc := chg_below hb
  clear hb
  clear rd_wsz
  have z12 := hc.size
  replace h_ws := rdss_chg h_ws hc (by omega) (by omega)
  replace os0 := oi_keep os0 hc (by omega) (by omega)
  replace om0 := oi_keep om0 hc (by omega) (by omega)
  replace o_wsz := oss_keep o_wsz hc (by omega) (by omega)
  replace hB0 := below_chg hB0 hc (by omega) (by omega)
  clear hc
  obtain ⟨ah0, ch0, -, rfl, -⟩ := oi_shape oh0
  go_wp2_with fail
  clear o_wsz
  refine (eqIntS_rd r0 ah0 as0 _ _ ch0 cs0 _ (oi_rds oh0) (oi_rds os0)).mono ?_
  rintro e w13 ⟨rfl, hs⟩
  have hc := chg_same hs
  clear hs
  have z13 := hc.size
  replace h_ws := rdss_chg h_ws hc (by omega) (by omega)
  replace os0 := oi_keep os0 hc (by omega) (by omega)
  replace om0 := oi_keep om0 hc (by omega) (by omega)
  replace oh0 := oi_keep oh0 hc (by omega) (by omega)
  replace hB0 := below_chg hB0 hc (by omega) (by omega)
  clear hc
  go_wp2_with fail
  refine (heldIntS_rd r0 1 ag0 _ _ cg0 _ HLM0.out (oi_rds2 om0) (by omega) (by omega)).mono ?_
  rintro e w' ⟨rfl, rfl⟩
  go_wp2_with fail
  go_ret
  exact ⟨rfl, hB0⟩
/-- How the search for the best stands. -/
def BSt (f : Nat → Int) (B k : Nat) (v : Value) (m : Int) : Prop := (k = 0 ∧ v = .slice none 0 0 ∧ m = -1) ∨ ∃ j, IsB f k j ∧ v = .slice (some ⟨B + j, 0, none⟩) 3 3 ∧ m = f j
theorem BSt.up {f : Nat → Int} {B k : Nat} {v : Value} {m : Int} (h : BSt f B k v m) (hm : m < f k) : BSt f B (k + 1) (.slice (some ⟨B + k, 0, none⟩) 3 3) (f k) := by
  rcases h with ⟨rfl, rfl, rfl⟩ | ⟨j, hj, rfl, rfl⟩
  · exact .inr ⟨0, IsB.one f, rfl, rfl⟩
  · have := hj.step
    rw [if_pos hm] at this
    exact .inr ⟨k, this, rfl, rfl⟩
theorem BSt.stay {f : Nat → Int} {B k : Nat} {v : Value} {m : Int} (h : BSt f B k v m) (h0 : 0 ≤ f k) (hm : ¬ m < f k) : BSt f B (k + 1) v m := by
  rcases h with ⟨rfl, rfl, rfl⟩ | ⟨j, hj, rfl, rfl⟩
  · omega
  · have := hj.step
    rw [if_neg hm] at this
    exact .inr ⟨j, this, rfl, rfl⟩
theorem BSt.done {f : Nat → Int} {B : Nat} {v : Value} {m : Int} (h : BSt f B 6 v m) : ∃ j, IsB f 6 j ∧ v = .slice (some ⟨B + j, 0, none⟩) 3 3 := by
  rcases h with ⟨h, -⟩ | ⟨j, hj, h, -⟩
  · omega
  · exact ⟨j, hj, h⟩
/-- What the rooms of the k-th sharing are worth to those who have them. -/
def sumK (ts : List (List Int)) (k : Nat) : Int := smv (rmW ts) (shS k) 3
theorem sumK_pos {ts : List (List Int)} (hy : rowsB 3 20 ts = true) (k : Nat) : 0 ≤ sumK ts k := by
  show 0 ≤ 0 + rmW ts 0 (shS k 0) + rmW ts 1 (shS k 1) + rmW ts 2 (shS k 2)
  have h0 := (rmW_bd hy 0 (shS k 0) (by omega)).1
  have h1 := (rmW_bd hy 1 (shS k 1) (by omega)).1
  have h2 := (rmW_bd hy 2 (shS k 2) (by omega)).1
  omega
theorem IsB.lt {f : Nat → Int} {m j : Nat} (h : IsB f m j) : j < m := h.1
set_option maxHeartbeats 1600000 in
theorem specBestRooms_yes (ts : List (List Int)) (hy : rowsB 3 20 ts = true) (j : Nat) (hj : IsB (sumK ts) 6 j) (a : Option Addr) (cap : Nat) (w : World) (h : RdSS w w.heap.size a ts) :
    Calls Tryd.prog 18 #[.slice a ts.length cap] w (OutBestRooms w (shL j) true) := by
  have HC := Lib.hid (ckRooms_any ts a cap _ w h)
  rw [hy] at HC
  have HR := Lib.hid (rooms_rows hy)
  have HP := Lib.hid (fun k => sumK_pos hy k)
  have HRD := Lib.hid h
  have HJ := Lib.hid hj
  clear h hy hj
  go_enter Tryd.func18, Tryd.ntmps18
  go_wp2_with fail
  refine HC.out.mono ?_
  rintro e w' ⟨rfl, rfl⟩
  go_wp2_with fail
  refine (ckAll_any _).mono ?_
  rintro e w1 ⟨rfl, hal, hb1, hz1⟩
  have HAL := Lib.hid hal
  have HRD1 := Lib.hid (rdss_mono (rdss_later HRD.out hb1) hb1.size)
  have HSUM : Hid (∀ k, k < 6 → Calls Tryd.prog 33 #[.slice a ts.length cap, .slice (some ⟨w.heap.size + k, 0, none⟩) 3 3] w1 fun e w' => e = .returned (.int .i64 (sumK ts k)) ∧ w1 = w') :=
    Lib.hid (fun k hk => ckSum_any ts (rmW ts) HR.out k hk a _ cap 3 _ w1.heap.size w1 HRD1.out ⟨_, _, alv_rd HAL.out k hk, .inr (by omega)⟩)
  clear hal
  go_wp2_with fail
  go_loop [4, 5, 14] (fun v4 v5 v14 => ∃ (k : Nat) (m : Int), k ≤ 6 ∧ v14 = .int .i64 k ∧ v5 = .int .i64 m ∧ BSt (sumK ts) w.heap.size k v4 m) (fun _ _ v14 => 6 - (intOf v14).toNat)
  case atStart => exact ⟨0, -1, by omega, rfl, rfl, .inl ⟨rfl, rfl, rfl⟩⟩
  case round =>
    obtain ⟨k, m, hk, rfl, rfl, hst⟩ := hrel
    have HST := Lib.hid hst
    clear hst
    by_cases hlt : k < 6
    · have hki : (k : Int) < 6 := by omega
      have c1 := (HAL.out k hlt).1
      have HSK := Lib.hid (HSUM.out k hlt)
      have HUP := Lib.hid (show m < sumK ts k → _ from fun hm => BSt.up HST.out hm)
      have HSTAY := Lib.hid (show ¬ m < sumK ts k → _ from fun hm => BSt.stay HST.out (HP.out k) hm)
      clear HST
      generalize sumK ts k = x at *
      go_wp2_with fail
      refine HSK.out.mono ?_
      rintro e w' ⟨rfl, rfl⟩
      by_cases hm : m < x
      · have HN := Lib.hid (HUP.out hm)
        clear HUP HSTAY
        go_wp2_with fail
        go_round
        case rel => exact ⟨k + 1, x, by omega, by go_num, rfl, HN.out⟩
        case measure => simp [intOf]; omega
      · have HN := Lib.hid (HSTAY.out (by omega))
        clear HUP HSTAY
        go_wp2_with fail
        go_round
        case rel => exact ⟨k + 1, m, by omega, by go_num, rfl, HN.out⟩
        case measure => simp [intOf]; omega
    · obtain rfl : k = 6 := by omega
      obtain ⟨j', hj', rfl⟩ := HST.out.done
      obtain rfl := hj'.uniq HJ.out
      clear HST
      go_wp2_with fail
      go_returns
      exact ⟨_, rfl, alv_oi HAL.out (Nat.le_refl _) j' hj'.lt, hb1⟩
set_option maxHeartbeats 800000 in
theorem specBestRooms_no (ts : List (List Int)) (hy : rowsB 3 20 ts = false) (a : Option Addr) (cap : Nat) (w : World) (h : RdSS w w.heap.size a ts) :
    Calls Tryd.prog 18 #[.slice a ts.length cap] w (OutBestRooms w [] false) := by
  have HC := Lib.hid (ckRooms_any ts a cap _ w h)
  rw [hy] at HC
  clear h hy
  go_enter Tryd.func18, Tryd.ntmps18
  go_wp2_with fail
  refine HC.out.mono ?_
  rintro e w' ⟨rfl, rfl⟩
  go_wp2_with fail
  go_returns
  exact ⟨_, rfl, oi_nil _ _ _, Below.refl _ _⟩
end Go.Proofs.YtfpadepeanejeaaDoor
