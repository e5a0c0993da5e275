import Derived.RegionTactic
import Derived.Test.YtfpadepeanejeaaDoorMf3
import Derived.Test.YtfpadepeanejeaaDoorMb4
import Derived.Test.YtfpadepeanejeaaDoorMd4
import Derived.Test.YtfpadepeanejeaaDoorMb5
namespace Go.Proofs.YtfpadepeanejeaaDoor
open Go.RowKit
set_option maxRecDepth 4000
def OutRentEnvy (w : World) (r0 : Int) (r1 : Bool) (e : Ending) (w' : World) : Prop := e = .returned (.tuple #[.int .i64 r0, .bool r1]) ∧ Below w.heap.size w w'
set_option maxHeartbeats 3200000 in
theorem lawOf_RentEnvy (n : Int) (ws : List (List Int)) (a_ws : Option Addr) (c_ws : Nat) (i : Int) (sh : List Int) (a_sh : Option Addr) (c_sh : Nat) (w : World) (h_ws : RdSS w w.heap.size a_ws ws) (h_sh : RdS w w.heap.size a_sh sh) (hvar : ShV w) (r0 : Int) (r1 : Bool)
    (hs : ∀ (a_ws' : Option Addr) (c_ws' : Nat) (a_sh' : Option Addr) (c_sh' : Nat) (w' : World), SmallSS ws → sh.length ≤ 1048576 → RdSS w' w'.heap.size a_ws' ws → RdS w' w'.heap.size a_sh' sh → Calls Tryd.prog 16 #[.int .i64 n, .slice a_ws' ws.length c_ws', .int .i64 i, .slice a_sh' sh.length c_sh'] w' (OutRentEnvy w' r0 r1))
    (hi : ∀ (a_ws' : Option Addr) (c_ws' : Nat) (a_sh' : Option Addr) (c_sh' : Nat) (w' : World), SmallSS ws → sh.length ≤ 1048576 → ShV w' → RdSS w' w'.heap.size a_ws' ws → RdS w' w'.heap.size a_sh' sh → Calls Tryd.prog 17 #[.int .i64 n, .slice a_ws' ws.length c_ws', .int .i64 i, .slice a_sh' sh.length c_sh'] w' (OutRentEnvy w' r0 r1)) :
    Calls Tryd.prog 5 #[.int .i64 n, .slice a_ws ws.length c_ws, .int .i64 i, .slice a_sh sh.length c_sh] w fun e w' => e = .returned (.bool true) ∧ Below w.heap.size w w' := by
  have HS := Lib.hid hs
  have HI := Lib.hid hi
  clear hs hi
  have HV := Lib.hid hvar
  clear hvar
  have hne0 : (r0 != r0) = false := by simp
  have hne1 : (r1 != r1) = false := by simp
  have hB0 : Below w.heap.size w w := Below.refl _ _
  by_cases hbig_sh : (1048576 : Int) < (sh.length : Int)
  · go_enter Tryd.func5, Tryd.ntmps5
    go_wp2_with fail
    go_ret
    exact ⟨rfl, Below.refl _ _⟩
  have hsz_sh : sh.length ≤ 1048576 := by omega
  go_enter Tryd.func5, Tryd.ntmps5
  go_wp2_with fail
  refine (szIntSS_any ws a_ws c_ws _ 1048576 (by omega) (by omega) w h_ws).mono ?_
  rintro e w' ⟨l1, rfl, rfl, hl⟩
  rcases hl with hl | ⟨hl0_0, hl1_0, hsz_ws⟩
  · go_wp2_with fail
    go_ret
    exact ⟨rfl, Below.refl _ _⟩
  go_wp2_with fail
  refine (toIntSS_any ws a_ws c_ws _ _ h_ws (by omega) hsz_ws).mono ?_
  rintro e w1 ⟨v_wsp, rfl, o_wsp, hb⟩
  have hc := chg_below hb
  clear hb
  have z1 := hc.size
  replace h_ws := rdss_chg h_ws hc (by omega) (by omega)
  replace h_sh := rds_chg h_sh hc (by omega) (by omega)
  replace hB0 := below_chg hB0 hc (by omega) (by omega)
  clear hc
  obtain ⟨a_wsp, c_wsp, rfl, rd_wsp⟩ := oss_shape o_wsp
  go_wp2_with fail
  refine (toIntS_rd sh a_sh c_sh _ _ h_sh (by omega) hsz_sh).mono ?_
  rintro e w2 ⟨v_shp, rfl, o_shp, hb⟩
  have hc := chg_below hb
  clear hb
  have z2 := hc.size
  replace h_ws := rdss_chg h_ws hc (by omega) (by omega)
  replace h_sh := rds_chg h_sh hc (by omega) (by omega)
  replace o_wsp := oss_keep o_wsp hc (by omega) (by omega)
  replace rd_wsp := rdss_chg rd_wsp hc (by omega) (by omega)
  replace hB0 := below_chg hB0 hc (by omega) (by omega)
  clear hc
  obtain ⟨a_shp, c_shp, _, rfl, -, rd_shp⟩ := oi_shape o_shp
  go_wp2_with fail
  refine (HS.out a_wsp c_wsp a_shp c_shp _ hsz_ws hsz_sh (rdss_mono rd_wsp (by omega)) (rds_mono rd_shp (by omega))).mono ?_
  rintro e w3 ⟨rfl, hb⟩
  have hc := chg_below hb
  clear hb
  clear rd_wsp
  clear rd_shp
  have z3 := hc.size
  replace h_ws := rdss_chg h_ws hc (by omega) (by omega)
  replace h_sh := rds_chg h_sh hc (by omega) (by omega)
  replace o_wsp := oss_keep o_wsp hc (by omega) (by omega)
  replace o_shp := oi_keep o_shp hc (by omega) (by omega)
  replace hB0 := below_chg hB0 hc (by omega) (by omega)
  clear hc
  go_wp2_with fail
  clear o_wsp
  clear o_shp
  refine (toIntSS_any ws a_ws c_ws _ _ h_ws (by omega) hsz_ws).mono ?_
  rintro e w4 ⟨v_wsx, rfl, o_wsx, hb⟩
  have hc := chg_below hb
  clear hb
  have z4 := hc.size
  replace h_ws := rdss_chg h_ws hc (by omega) (by omega)
  replace h_sh := rds_chg h_sh hc (by omega) (by omega)
  replace hB0 := below_chg hB0 hc (by omega) (by omega)
  clear hc
  obtain ⟨a_wsx, c_wsx, rfl, rd_wsx⟩ := oss_shape o_wsx
  go_wp2_with fail
  refine (toIntS_rd sh a_sh c_sh _ _ h_sh (by omega) hsz_sh).mono ?_
  rintro e w5 ⟨v_shx, rfl, o_shx, hb⟩
  have hc := chg_below hb
  clear hb
  have z5 := hc.size
  replace h_ws := rdss_chg h_ws hc (by omega) (by omega)
  replace h_sh := rds_chg h_sh hc (by omega) (by omega)
  replace o_wsx := oss_keep o_wsx hc (by omega) (by omega)
  replace rd_wsx := rdss_chg rd_wsx hc (by omega) (by omega)
  replace hB0 := below_chg hB0 hc (by omega) (by omega)
  clear hc
  obtain ⟨a_shx, c_shx, _, rfl, -, rd_shx⟩ := oi_shape o_shx
  go_wp2_with fail
  refine (HI.out a_wsx c_wsx a_shx c_shx _ hsz_ws hsz_sh (ShV_later HV.out hB0) (rdss_mono rd_wsx (by omega)) (rds_mono rd_shx (by omega))).mono ?_
  rintro e w6 ⟨rfl, hb⟩
  have hc := chg_below hb
  clear hb
  clear rd_wsx
  clear rd_shx
  have z6 := hc.size
  replace h_ws := rdss_chg h_ws hc (by omega) (by omega)
  replace h_sh := rds_chg h_sh hc (by omega) (by omega)
  replace o_wsx := oss_keep o_wsx hc (by omega) (by omega)
  replace o_shx := oi_keep o_shx hc (by omega) (by omega)
  replace hB0 := below_chg hB0 hc (by omega) (by omega)
  clear hc
  go_wp2_with fail
  refine (toIntSS_any ws a_ws c_ws _ _ h_ws (by omega) hsz_ws).mono ?_
  rintro e w7 ⟨v_wsy, rfl, o_wsy, hb⟩
  have hc := chg_below hb
  clear hb
  have z7 := hc.size
  replace h_ws := rdss_chg h_ws hc (by omega) (by omega)
  replace h_sh := rds_chg h_sh hc (by omega) (by omega)
  replace o_wsx := oss_keep o_wsx hc (by omega) (by omega)
  replace o_shx := oi_keep o_shx hc (by omega) (by omega)
  replace hB0 := below_chg hB0 hc (by omega) (by omega)
  clear hc
  obtain ⟨a_wsy, c_wsy, rfl, -⟩ := oss_shape o_wsy
  go_wp2_with fail
  refine (eqIntSS_rd ws a_wsx a_wsy _ _ c_wsx c_wsy _ (oss_rds o_wsx) (oss_rds o_wsy)).mono ?_
  rintro e w8 ⟨rfl, hs⟩
  have hc := chg_same hs
  clear hs
  have z8 := hc.size
  replace h_ws := rdss_chg h_ws hc (by omega) (by omega)
  replace h_sh := rds_chg h_sh hc (by omega) (by omega)
  replace o_wsx := oss_keep o_wsx hc (by omega) (by omega)
  replace o_shx := oi_keep o_shx hc (by omega) (by omega)
  replace o_wsy := oss_keep o_wsy hc (by omega) (by omega)
  replace hB0 := below_chg hB0 hc (by omega) (by omega)
  clear hc
  go_wp2_with fail
  clear o_wsy
  refine (toIntS_rd sh a_sh c_sh _ _ h_sh (by omega) hsz_sh).mono ?_
  rintro e w9 ⟨v_shy, rfl, o_shy, hb⟩
  have hc := chg_below hb
  clear hb
  have z9 := hc.size
  replace h_ws := rdss_chg h_ws hc (by omega) (by omega)
  replace h_sh := rds_chg h_sh hc (by omega) (by omega)
  replace o_wsx := oss_keep o_wsx hc (by omega) (by omega)
  replace o_shx := oi_keep o_shx hc (by omega) (by omega)
  replace hB0 := below_chg hB0 hc (by omega) (by omega)
  clear hc
  obtain ⟨a_shy, c_shy, -, rfl, -⟩ := oi_shape o_shy
  go_wp2_with fail
  refine (eqIntS_rd sh a_shx a_shy _ _ c_shx c_shy _ (oi_rds o_shx) (oi_rds o_shy)).mono ?_
  rintro e w10 ⟨rfl, hs⟩
  have hc := chg_same hs
  clear hs
  have z10 := hc.size
  replace h_ws := rdss_chg h_ws hc (by omega) (by omega)
  replace h_sh := rds_chg h_sh hc (by omega) (by omega)
  replace o_wsx := oss_keep o_wsx hc (by omega) (by omega)
  replace o_shx := oi_keep o_shx hc (by omega) (by omega)
  replace o_shy := oi_keep o_shy hc (by omega) (by omega)
  replace hB0 := below_chg hB0 hc (by omega) (by omega)
  clear hc
  go_wp2_with fail
  clear o_shy
  go_ret
  exact ⟨rfl, hB0⟩
theorem flA_zero (n : Int) (g : Nat → Int) : (flA n g)[0]? = some (.int .i64 n) := by
  rw [flA, arrF_at 10 _ 0 (by omega)]; rfl
/-- The worths with the costs taken off, by the cell where they lie. -/
def rn9 (ts : List (List Int)) (n i q : Nat) : Int := rnW ts n i (q / 3) (q % 3)
theorem rn9_at (ts : List (List Int)) (n i p q : Nat) (hq : q < 3) : rn9 ts n i (3 * p + q) = rnW ts n i p q := by
  rw [rn9, show (3 * p + q) / 3 = p by omega, show (3 * p + q) % 3 = q by omega]
theorem rn9_bd {ts : List (List Int)} (hy : rowsB 3 20 ts = true) (n i : Nat) (h2 : n ≤ 8) (hi : i < Pr.cnt n) : ∀ q, q < 9 → -1000 ≤ rn9 ts n i q ∧ rn9 ts n i q ≤ 1000 := fun q hq => by
  have := rmW_bd hy (q / 3) (q % 3) (by omega)
  have := costP_bd n i (q % 3) h2 hi
  unfold rn9 rnW; omega
def okR (n : Int) (ts : List (List Int)) (i : Int) (sh : List Int) : Prop := Pr.okPt n i ∧ rowsB 3 20 ts = true ∧ shB sh = true
theorem okPt_nat {n i : Int} (h : Pr.okPt n i) : ∃ m j : Nat, n = m ∧ i = j ∧ 1 ≤ m ∧ m ≤ 8 ∧ j < Pr.cnt m := by
  obtain ⟨h1, h2, h3, h4⟩ := h
  obtain ⟨m, rfl⟩ := Int.eq_ofNat_of_zero_le (show 0 ≤ n by omega)
  obtain ⟨j, rfl⟩ := Int.eq_ofNat_of_zero_le h3
  exact ⟨m, j, rfl, rfl, by omega, by omega, by simpa using h4⟩
set_option maxHeartbeats 1600000 in
theorem specRentEnvy_yes (n i : Nat) (h1 : 1 ≤ n) (h2 : n ≤ 8) (hi : i < Pr.cnt n) (ts : List (List Int)) (hy : rowsB 3 20 ts = true) (k : Nat) (hk : k < 6) (G : Int) (hG : Mx (SN (rnW ts n i) (shS k) 3 0) G) (a : Option Addr) (cap : Nat) (a' : Option Addr) (cap' : Nat) (w : World) (h : RdSS w w.heap.size a ts) (h' : RdS w w.heap.size a' (shL k)) :
    Calls Tryd.prog 16 #[.int .i64 n, .slice a ts.length cap, .int .i64 i, .slice a' 3 cap'] w (OutRentEnvy w G true) := by
  have HT := Lib.hid (ckRooms_any ts a cap _ w h)
  rw [hy] at HT
  have HS := Lib.hid (ckShares_any (shL k) a' cap' _ w h')
  have hsb : shB (shL k) = true := by
    simp only [shB, List.any_eq_true, List.mem_range, decide_eq_true_eq]; exact ⟨k, hk, rfl⟩
  rw [hsb] at HS
  have HW := Lib.hid (fun w h => ckCosts_any n i h1 h2 hi ts hy a cap w h)
  have HR := Lib.hid (rnts_rows hy n i h2 hi)
  have HRD := Lib.hid h
  have HRS := Lib.hid h'
  have HGG := Lib.hid hG
  clear h h' hy hsb hG
  go_enter Tryd.func16, Tryd.ntmps16
  go_wp2_with fail
  refine (mePoint_yes n i h1 h2 hi _).mono ?_
  rintro e w' ⟨rfl, rfl⟩
  go_wp2_with fail
  refine HT.out.mono ?_
  rintro e w' ⟨rfl, rfl⟩
  go_wp2_with fail
  refine HS.out.mono ?_
  rintro e w1 ⟨rfl, hs1⟩
  have hb1 : Below w.heap.size w w1 := hs1 _
  go_wp2_with fail
  refine (HW.out w1 (rdss_mono (rdss_later HRD.out hb1) hb1.size)).mono ?_
  rintro e w2 ⟨v, rfl, hc, hb2⟩
  have hB2 := bnext hb1 hb2
  obtain ⟨a2, c2, rfl, hrd2⟩ := oss_shape (oss_new hc)
  go_wp2_with fail
  refine (ckEnvy_any (rnts ts n i) _ HR.out k hk G HGG.out a2 a' c2 cap' _ _ w2 hrd2 (rds_later HRS.out hB2)).mono ?_
  rintro e w' ⟨rfl, rfl⟩
  go_wp2_with fail
  go_returns
  exact ⟨rfl, hB2⟩
set_option maxHeartbeats 800000 in
theorem specRentEnvy_no (n i : Int) (ts : List (List Int)) (sh : List Int) (hno : ¬ okR n ts i sh) (a : Option Addr) (cap : Nat) (a' : Option Addr) (cap' B : Nat) (w : World) (h : RdSS w B a ts) (h' : RdS w B a' sh) :
    Calls Tryd.prog 16 #[.int .i64 n, .slice a ts.length cap, .int .i64 i, .slice a' sh.length cap'] w (OutRentEnvy w 0 false) := by
  have HT := Lib.hid (ckRooms_any ts a cap B w h)
  have HS := Lib.hid (ckShares_any sh a' cap' B w h')
  have HNO := Lib.hid hno
  clear h h' hno
  go_enter Tryd.func16, Tryd.ntmps16
  go_wp2_with fail
  by_cases hp : Pr.okPt n i
  · obtain ⟨m, j, rfl, rfl, h1, h2, hi⟩ := okPt_nat hp
    have HP := Lib.hid hp
    clear hp
    refine (mePoint_yes m j h1 h2 hi _).mono ?_
    rintro e w' ⟨rfl, rfl⟩
    go_wp2_with fail
    refine HT.out.mono ?_
    rintro e w' ⟨rfl, rfl⟩
    cases hT : rowsB 3 20 ts
    · clear hT
      go_wp2_with fail
      go_returns
      exact ⟨rfl, Below.refl _ _⟩
    · have hsf : shB sh = false := by
        rw [Bool.eq_false_iff]; exact fun h => HNO.out ⟨HP.out, hT, h⟩
      rw [hsf] at HS
      clear hT hsf
      go_wp2_with fail
      refine HS.out.mono ?_
      rintro e w1 ⟨rfl, hs1⟩
      go_wp2_with fail
      go_returns
      exact ⟨rfl, hs1 _⟩
  · refine (mePoint_no n i hp _).mono ?_
    rintro e w' ⟨rfl, rfl⟩
    clear hp
    go_wp2_with fail
    go_returns
    exact ⟨rfl, Below.refl _ _⟩
set_option maxHeartbeats 3200000 in
theorem implRentEnvy_yes (n i : Nat) (h1 : 1 ≤ n) (h2 : n ≤ 8) (hi : i < Pr.cnt n) (ts : List (List Int)) (hy : rowsB 3 20 ts = true) (k : Nat) (hk : k < 6) (G : Int) (hG : Mx (SN (rnW ts n i) (shS k) 3 0) G) (a : Option Addr) (cap : Nat) (a' : Option Addr) (cap' : Nat) (w : World) (hv : ShV w) (h : RdSS w w.heap.size a ts) (h' : RdS w w.heap.size a' (shL k)) :
    Calls Tryd.prog 17 #[.int .i64 n, .slice a ts.length cap, .int .i64 i, .slice a' 3 cap'] w (OutRentEnvy w G true) := by
  have hcn := (Pr.cnt_le n (by omega)).1
  have HC := Lib.hid (flatOf_yes n h1 h2 ts hy a cap w h)
  have HFO := Lib.hid (fun w => flatOffers_any n i h1 h2 hi (rw9 ts) (rw9_bd hy) (rn9 ts n i) (fun q _ => rfl) w)
  have HE := Lib.hid (fun w => offEnvy_any (rn9 ts n i) (rn9_bd hy n i h2 hi) k hk G (SN_congr (fun p _ q hq => (rn9_at ts n i p q hq).symm) (fun p hp => ⟨rfl, shS_lt k p hk hp⟩) hG) w)
  have HSH := Lib.hid (fun w hv h => sharingOf_any (shL k) (shA k) true (.inr ⟨rfl, k, hk, rfl, rfl⟩) a' cap' w hv h)
  have HRS := Lib.hid h'
  have HV := Lib.hid hv
  clear h h' hy hv hG
  go_enter Tryd.func17, Tryd.ntmps17
  go_wp2_with fail
  refine HC.out.mono ?_
  rintro e w1 ⟨rfl, hb1⟩
  have hg1 := heap_alloc_new w1 (.cells zeroF 60)
  have hb10 := balloc hb1 (.cells zeroF 60)
  have hz1 := hb1.size
  go_wp2_with (first | (with_reducible refine alloc_blk zeroF run_alloc_flat rfl rfl ?_) | ((with_reducible refine store_blk blkFlat rfl _ _ rfl w1.heap.size (flA n (rw9 ts)) zeroF ?_ ?_ hg1 zeroF_size (flA_size _ _) (flA_one _ _) w1.heap.size (Nat.le_refl _) ?_); exact rfl; exact rfl; intro w2 hg2 hb2 hk2 hz2; have hB2 : Below w.heap.size w w2 := hb10.trans (hb2.mono hz1)))
  refine (HSH.out w2 (ShV_later HV.out hB2) (rds_mono (rds_later HRS.out hB2) hB2.size)).mono ?_
  rintro e w3 ⟨rfl, hb3⟩
  have hB3 := bnext hB2 hb3
  rw [World.size_alloc] at hz2
  have hz3 := hb3.size
  have hf3 := (hb3.block w1.heap.size (by omega)).trans hg2
  have hg3 := heap_alloc_new w3 (.cells zeroH 51)
  have hb30 := balloc hB3 (.cells zeroH 51)
  have hf30 := (Below.heap_alloc w3 (.cells zeroH 51) _ (show w1.heap.size < w3.heap.size by omega)).trans hf3
  go_wp2_with (first | (with_reducible refine alloc_blk zeroH run_alloc_sh rfl rfl ?_) | ((with_reducible refine store_blk blkSh rfl _ _ rfl w3.heap.size (shA k) zeroH ?_ ?_ hg3 zeroH_size (shA_size _) (shA_one _) w3.heap.size (Nat.le_refl _) ?_); exact rfl; exact rfl; intro w4 hg4 hb4 hk4 hz4; have hB4 : Below w.heap.size w w4 := hb30.trans (hb4.mono hB3.size); have hf4 := (hk4 w1.heap.size (by omega)).trans hf30; have hz4' : w4.heap.size = w3.heap.size + 1 := (by rw [hz4]; simp); have hm4 := blk_cell hf4 0 (.int .i64 n) (flA_zero n (rw9 ts))))
  refine (hasPoint_yes n i h2 hi _).mono ?_
  rintro e w5 ⟨rfl, hb5⟩
  have hB5 := bnext hB4 hb5
  have hf5 := (hb5.block w1.heap.size (by omega)).trans hf4
  have hg5 := (hb5.block w3.heap.size (by omega)).trans hg4
  have hz5 := hb5.size
  clear hm4
  go_wp2_with fail
  refine wp_region_mix (fun w' => w'.heap[w1.heap.size]? = some (.cells (flA n (rw9 ts)) 60 (0, 0)) ∧ w'.heap[w3.heap.size]? = some (.cells (shA k) 51 (0, 0))) [4, 5, 7] [0, 1, 2, 3, 6, 4, 5, 7, 8, 9] (by kernel_rfl) (by kernel_rfl) (fun _ _ d _ _ h => by cases d <;> exact h) (by kernel_rfl) rfl ⟨hf5, hg5⟩ ?_
  refine mix_take 0 _ (.agg (flA n (rw9 ts))) rfl rfl rfl (some 38) rfl (fun w' hw' => exec_row _ _ rfl w1.heap.size rfl (flA n (rw9 ts)) (load_ok blkFlat w' _ _ hw'.1 (flA_size _ _))) ?_
  simp only [Act.put, List.setIfInBounds_toArray, List.set_cons_zero, List.set_cons_succ]
  refine mix_take 1 _ ?_ rfl rfl rfl (some 39) rfl (fun w' hw' => ?hv1) ?_
  case hv1 =>
    go_simp
    with_reducible rfl
  simp only [Act.put, List.setIfInBounds_toArray, List.set_cons_zero, List.set_cons_succ]
  refine mix_take 2 _ ?_ rfl rfl rfl (some 40) rfl (fun w' hw' => ?hv2) ?_
  case hv2 =>
    have s0 : w'.cell? ⟨w1.heap.size, 0, none⟩ = some (.int .i64 n) := blk_cell hw'.1 0 _ (flA_zero n (rw9 ts))
    go_simp
    with_reducible rfl
  simp only [Act.put, List.setIfInBounds_toArray, List.set_cons_zero, List.set_cons_succ]
  refine mix_take 3 _ ?_ rfl rfl rfl (some 41) rfl (fun w' hw' => ?hv3) ?_
  case hv3 =>
    go_simp
    with_reducible rfl
  simp only [Act.put, List.setIfInBounds_toArray, List.set_cons_zero, List.set_cons_succ]
  refine mix_take 6 _ (.agg (shA k)) rfl rfl rfl (some 44) rfl (fun w' hw' => exec_row _ _ rfl w3.heap.size rfl (shA k) (load_ok blkSh w' _ _ hw'.2 (shA_size _))) ?_
  simp only [Act.put, List.setIfInBounds_toArray, List.set_cons_zero, List.set_cons_succ]
  refine mix_call 4 _ rfl rfl rfl 40 #[.agg #[.int .i64 n], .int .i64 i] (some 42) rfl ?hr4 ?_
  case hr4 => go_simp
  refine (spotAt_any n i h1 h2 (by omega) _).mono ?_
  rintro e w6 ⟨rfl, hb6'⟩
  have hb6 : Below w5.heap.size w5 w6 := ((Same.refl w5).drew w5.heap.size).trans hb6'
  have hB6 := bnext hB5 hb6
  have hz6 := hb6.size
  have hS6 : w6.heap[w1.heap.size]? = some (.cells (flA n (rw9 ts)) 60 (0, 0)) ∧ w6.heap[w3.heap.size]? = some (.cells (shA k) 51 (0, 0)) := ⟨(hb6.block _ (by omega)).trans hf5, (hb6.block _ (by omega)).trans hg5⟩
  refine ⟨_, rfl, hS6, ?_⟩
  simp only [Act.put, List.setIfInBounds_toArray, List.set_cons_zero, List.set_cons_succ]
  refine mix_call 5 _ rfl rfl rfl 39 #[.agg (flA n (rw9 ts)), .agg (spA n i)] (some 43) rfl ?hr5 ?_
  case hr5 =>
    go_simp
    rfl
  refine (HFO.out _).mono ?_
  rintro e w7 ⟨rfl, hb7⟩
  have hB7 := bnext hB6 hb7
  have hz7 := hb7.size
  have hS7 : w7.heap[w1.heap.size]? = some (.cells (flA n (rw9 ts)) 60 (0, 0)) ∧ w7.heap[w3.heap.size]? = some (.cells (shA k) 51 (0, 0)) := ⟨(hb7.block _ (by omega)).trans hS6.1, (hb7.block _ (by omega)).trans hS6.2⟩
  refine ⟨_, rfl, hS7, ?_⟩
  simp only [Act.put, List.setIfInBounds_toArray, List.set_cons_zero, List.set_cons_succ]
  refine mix_call 7 _ rfl rfl rfl 32 #[.agg (arrF 9 (rn9 ts n i)), .agg (shA k)] (some 45) rfl ?hr7 ?_
  case hr7 => go_simp
  refine (HE.out _).mono ?_
  rintro e w8 ⟨rfl, hb8⟩
  have hB8 := bnext hB7 hb8
  refine ⟨_, rfl, ⟨(hb8.block _ (by omega)).trans hS7.1, (hb8.block _ (by omega)).trans hS7.2⟩, ?_⟩
  simp only [Act.put, List.setIfInBounds_toArray, List.set_cons_zero, List.set_cons_succ]
  refine mix_take 8 _ ?_ rfl rfl rfl (some 8) rfl (fun w' hw' => ?hv8) ?_
  case hv8 =>
    go_simp
    with_reducible rfl
  simp only [Act.put, List.setIfInBounds_toArray, List.set_cons_zero, List.set_cons_succ]
  refine mix_take 9 _ ?_ rfl rfl rfl (some 9) rfl (fun w' hw' => ?hv9) ?_
  case hv9 =>
    go_simp
    with_reducible rfl
  simp only [Act.put, List.setIfInBounds_toArray, List.set_cons_zero, List.set_cons_succ]
  refine mix_done ?_
  go_wp2_with fail
  go_returns
  exact ⟨rfl, hB8⟩
end Go.Proofs.YtfpadepeanejeaaDoor
