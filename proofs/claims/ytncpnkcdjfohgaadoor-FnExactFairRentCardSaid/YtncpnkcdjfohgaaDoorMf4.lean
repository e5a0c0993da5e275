import Derived.RegionTactic
import Derived.Test.YtncpnkcdjfohgaaDoorMf3
import Derived.Test.YtncpnkcdjfohgaaDoorMb4
import Derived.Test.YtncpnkcdjfohgaaDoorMd4
import Derived.Test.YtncpnkcdjfohgaaDoorMb5
namespace Go.Proofs.YtncpnkcdjfohgaaDoor
open Go.RowKit
set_option maxRecDepth 4000
def OutRentEnvy (w : World) (r0 : Int) (r1 : Bool) (e : Ending) (w' : World) : Prop := e = .returned (.tuple #[.int .i64 r0, .bool r1]) ∧ Below w.heap.size w w'
theorem flA_zero (n : Int) (g : Nat → Int) : (flA n g)[0]? = some (.int .i64 n) := by
  rw [flA, arrF_at 10 _ 0 (by omega)]; rfl
/-- The worths with the costs taken off, by the cell where they lie. -/
def rn9 (ts : List (List Int)) (n i q : Nat) : Int := rnW ts n i (q / 3) (q % 3)
theorem rn9_at (ts : List (List Int)) (n i p q : Nat) (hq : q < 3) : rn9 ts n i (3 * p + q) = rnW ts n i p q := by
  rw [rn9, show (3 * p + q) / 3 = p by omega, show (3 * p + q) % 3 = q by omega]
theorem rn9_bd {ts : List (List Int)} (hy : rowsB 3 20 ts = true) (n i : Nat) (h2 : n ≤ 8) (hi : i < Pr.cnt n) : ∀ q, q < 9 → -1000 ≤ rn9 ts n i q ∧ rn9 ts n i q ≤ 1000 := fun q hq => by
  have := rmW_bd hy (q / 3) (q % 3) (by omega)
  have := costP_bd n i (q % 3) h2 hi
  unfold rn9 rnW; omega
def okR (n : Int) (ts : List (List Int)) (i : Int) (sh : List Int) : Prop := Pr.okPt n i ∧ rowsB 3 20 ts = true ∧ shB sh = true
theorem okPt_nat {n i : Int} (h : Pr.okPt n i) : ∃ m j : Nat, n = m ∧ i = j ∧ 1 ≤ m ∧ m ≤ 8 ∧ j < Pr.cnt m := by
  obtain ⟨h1, h2, h3, h4⟩ := h
  obtain ⟨m, rfl⟩ := Int.eq_ofNat_of_zero_le (show 0 ≤ n by omega)
  obtain ⟨j, rfl⟩ := Int.eq_ofNat_of_zero_le h3
  exact ⟨m, j, rfl, rfl, by omega, by omega, by simpa using h4⟩
set_option maxHeartbeats 1600000 in
theorem specRentEnvy_yes (n i : Nat) (h1 : 1 ≤ n) (h2 : n ≤ 8) (hi : i < Pr.cnt n) (ts : List (List Int)) (hy : rowsB 3 20 ts = true) (k : Nat) (hk : k < 6) (G : Int) (hG : Mx (SN (rnW ts n i) (shS k) 3 0) G) (a : Option Addr) (cap : Nat) (a' : Option Addr) (cap' : Nat) (w : World) (h : RdSS w w.heap.size a ts) (h' : RdS w w.heap.size a' (shL k)) :
    Calls Tryd.prog 37 #[.int .i64 n, .slice a ts.length cap, .int .i64 i, .slice a' 3 cap'] w (OutRentEnvy w G true) := by
  have HT := Lib.hid (ckRooms_any ts a cap _ w h)
  rw [hy] at HT
  have HS := Lib.hid (ckShares_any (shL k) a' cap' _ w h')
  have hsb : shB (shL k) = true := by
    simp only [shB, List.any_eq_true, List.mem_range, decide_eq_true_eq]; exact ⟨k, hk, rfl⟩
  rw [hsb] at HS
  have HW := Lib.hid (fun w h => ckCosts_any n i h1 h2 hi ts hy a cap w h)
  have HR := Lib.hid (rnts_rows hy n i h2 hi)
  have HRD := Lib.hid h
  have HRS := Lib.hid h'
  have HGG := Lib.hid hG
  clear h h' hy hsb hG
  go_enter Tryd.func37, Tryd.ntmps37
  go_wp2_with fail
  refine (mePoint_yes n i h1 h2 hi _).mono ?_
  rintro e w' ⟨rfl, rfl⟩
  go_wp2_with fail
  refine HT.out.mono ?_
  rintro e w' ⟨rfl, rfl⟩
  go_wp2_with fail
  refine HS.out.mono ?_
  rintro e w1 ⟨rfl, hs1⟩
  have hb1 : Below w.heap.size w w1 := hs1 _
  go_wp2_with fail
  refine (HW.out w1 (rdss_mono (rdss_later HRD.out hb1) hb1.size)).mono ?_
  rintro e w2 ⟨v, rfl, hc, hb2⟩
  have hB2 := bnext hb1 hb2
  obtain ⟨a2, c2, rfl, hrd2⟩ := oss_shape (oss_new hc)
  go_wp2_with fail
  refine (ckEnvy_any (rnts ts n i) _ HR.out k hk G HGG.out a2 a' c2 cap' _ _ w2 hrd2 (rds_later HRS.out hB2)).mono ?_
  rintro e w' ⟨rfl, rfl⟩
  go_wp2_with fail
  go_returns
  exact ⟨rfl, hB2⟩
set_option maxHeartbeats 800000 in
theorem specRentEnvy_no (n i : Int) (ts : List (List Int)) (sh : List Int) (hno : ¬ okR n ts i sh) (a : Option Addr) (cap : Nat) (a' : Option Addr) (cap' B : Nat) (w : World) (h : RdSS w B a ts) (h' : RdS w B a' sh) :
    Calls Tryd.prog 37 #[.int .i64 n, .slice a ts.length cap, .int .i64 i, .slice a' sh.length cap'] w (OutRentEnvy w 0 false) := by
  have HT := Lib.hid (ckRooms_any ts a cap B w h)
  have HS := Lib.hid (ckShares_any sh a' cap' B w h')
  have HNO := Lib.hid hno
  clear h h' hno
  go_enter Tryd.func37, Tryd.ntmps37
  go_wp2_with fail
  by_cases hp : Pr.okPt n i
  · obtain ⟨m, j, rfl, rfl, h1, h2, hi⟩ := okPt_nat hp
    have HP := Lib.hid hp
    clear hp
    refine (mePoint_yes m j h1 h2 hi _).mono ?_
    rintro e w' ⟨rfl, rfl⟩
    go_wp2_with fail
    refine HT.out.mono ?_
    rintro e w' ⟨rfl, rfl⟩
    cases hT : rowsB 3 20 ts
    · clear hT
      go_wp2_with fail
      go_returns
      exact ⟨rfl, Below.refl _ _⟩
    · have hsf : shB sh = false := by
        rw [Bool.eq_false_iff]; exact fun h => HNO.out ⟨HP.out, hT, h⟩
      rw [hsf] at HS
      clear hT hsf
      go_wp2_with fail
      refine HS.out.mono ?_
      rintro e w1 ⟨rfl, hs1⟩
      go_wp2_with fail
      go_returns
      exact ⟨rfl, hs1 _⟩
  · refine (mePoint_no n i hp _).mono ?_
    rintro e w' ⟨rfl, rfl⟩
    clear hp
    go_wp2_with fail
    go_returns
    exact ⟨rfl, Below.refl _ _⟩
set_option maxHeartbeats 3200000 in
theorem implRentEnvy_yes (n i : Nat) (h1 : 1 ≤ n) (h2 : n ≤ 8) (hi : i < Pr.cnt n) (ts : List (List Int)) (hy : rowsB 3 20 ts = true) (k : Nat) (hk : k < 6) (G : Int) (hG : Mx (SN (rnW ts n i) (shS k) 3 0) G) (a : Option Addr) (cap : Nat) (a' : Option Addr) (cap' : Nat) (w : World) (hv : ShV w) (h : RdSS w w.heap.size a ts) (h' : RdS w w.heap.size a' (shL k)) :
    Calls Tryd.prog 34 #[.int .i64 n, .slice a ts.length cap, .int .i64 i, .slice a' 3 cap'] w (OutRentEnvy w G true) := by
  have hcn := (Pr.cnt_le n (by omega)).1
  have HC := Lib.hid (flatOf_yes n h1 h2 ts hy a cap w h)
  have HFO := Lib.hid (fun w => flatOffers_any n i h1 h2 hi (rw9 ts) (rw9_bd hy) (rn9 ts n i) (fun q _ => rfl) w)
  have HE := Lib.hid (fun w => offEnvy_any (rn9 ts n i) (rn9_bd hy n i h2 hi) k hk G (SN_congr (fun p _ q hq => (rn9_at ts n i p q hq).symm) (fun p hp => ⟨rfl, shS_lt k p hk hp⟩) hG) w)
  have HSH := Lib.hid (fun w hv h => sharingOf_any (shL k) (shA k) true (.inr ⟨rfl, k, hk, rfl, rfl⟩) a' cap' w hv h)
  have HRS := Lib.hid h'
  have HV := Lib.hid hv
  clear h h' hy hv hG
  go_enter Tryd.func34, Tryd.ntmps34
  go_wp2_with fail
  refine HC.out.mono ?_
  rintro e w1 ⟨rfl, hb1⟩
  have hg1 := heap_alloc_new w1 (.cells zeroF 72)
  have hb10 := balloc hb1 (.cells zeroF 72)
  have hz1 := hb1.size
  go_wp2_with (first | (with_reducible refine alloc_blk zeroF run_alloc_flat rfl rfl ?_) | ((with_reducible refine store_blk blkFlat rfl _ _ rfl w1.heap.size (flA n (rw9 ts)) zeroF ?_ ?_ hg1 zeroF_size (flA_size _ _) (flA_one _ _) w1.heap.size (Nat.le_refl _) ?_); exact rfl; exact rfl; intro w2 hg2 hb2 hk2 hz2; have hB2 : Below w.heap.size w w2 := hb10.trans (hb2.mono hz1)))
  refine (HSH.out w2 (ShV_later HV.out hB2) (rds_mono (rds_later HRS.out hB2) hB2.size)).mono ?_
  rintro e w3 ⟨rfl, hb3⟩
  have hB3 := bnext hB2 hb3
  rw [World.size_alloc] at hz2
  have hz3 := hb3.size
  have hf3 := (hb3.block w1.heap.size (by omega)).trans hg2
  have hg3 := heap_alloc_new w3 (.cells zeroH 58)
  have hb30 := balloc hB3 (.cells zeroH 58)
  have hf30 := (Below.heap_alloc w3 (.cells zeroH 58) _ (show w1.heap.size < w3.heap.size by omega)).trans hf3
  go_wp2_with (first | (with_reducible refine alloc_blk zeroH run_alloc_sh rfl rfl ?_) | ((with_reducible refine store_blk blkSh rfl _ _ rfl w3.heap.size (shA k) zeroH ?_ ?_ hg3 zeroH_size (shA_size _) (shA_one _) w3.heap.size (Nat.le_refl _) ?_); exact rfl; exact rfl; intro w4 hg4 hb4 hk4 hz4; have hB4 : Below w.heap.size w w4 := hb30.trans (hb4.mono hB3.size); have hf4 := (hk4 w1.heap.size (by omega)).trans hf30; have hz4' : w4.heap.size = w3.heap.size + 1 := (by rw [hz4]; simp); have hm4 := blk_cell hf4 0 (.int .i64 n) (flA_zero n (rw9 ts))))
  refine (hasPoint_yes n i h2 hi _).mono ?_
  rintro e w5 ⟨rfl, hb5⟩
  have hB5 := bnext hB4 hb5
  have hf5 := (hb5.block w1.heap.size (by omega)).trans hf4
  have hg5 := (hb5.block w3.heap.size (by omega)).trans hg4
  have hz5 := hb5.size
  clear hm4
  go_wp2_with fail
  refine wp_region_mix (fun w' => w'.heap[w1.heap.size]? = some (.cells (flA n (rw9 ts)) 72 (0, 0)) ∧ w'.heap[w3.heap.size]? = some (.cells (shA k) 58 (0, 0))) [4, 5, 7] [0, 1, 2, 3, 6, 4, 5, 7, 8, 9] (by kernel_rfl) (by kernel_rfl) (fun _ _ d _ _ h => by cases d <;> exact h) (by kernel_rfl) rfl ⟨hf5, hg5⟩ ?_
  refine mix_take 0 _ (.agg (flA n (rw9 ts))) rfl rfl rfl (some 38) rfl (fun w' hw' => exec_row _ _ rfl w1.heap.size rfl (flA n (rw9 ts)) (load_ok blkFlat w' _ _ hw'.1 (flA_size _ _))) ?_
  simp only [Act.put, List.setIfInBounds_toArray, List.set_cons_zero, List.set_cons_succ]
  refine mix_take 1 _ ?_ rfl rfl rfl (some 39) rfl (fun w' hw' => ?hv1) ?_
  case hv1 =>
    go_simp
    with_reducible rfl
  simp only [Act.put, List.setIfInBounds_toArray, List.set_cons_zero, List.set_cons_succ]
  refine mix_take 2 _ ?_ rfl rfl rfl (some 40) rfl (fun w' hw' => ?hv2) ?_
  case hv2 =>
    have s0 : w'.cell? ⟨w1.heap.size, 0, none⟩ = some (.int .i64 n) := blk_cell hw'.1 0 _ (flA_zero n (rw9 ts))
    go_simp
    with_reducible rfl
  simp only [Act.put, List.setIfInBounds_toArray, List.set_cons_zero, List.set_cons_succ]
  refine mix_take 3 _ ?_ rfl rfl rfl (some 41) rfl (fun w' hw' => ?hv3) ?_
  case hv3 =>
    go_simp
    with_reducible rfl
  simp only [Act.put, List.setIfInBounds_toArray, List.set_cons_zero, List.set_cons_succ]
  refine mix_take 6 _ (.agg (shA k)) rfl rfl rfl (some 44) rfl (fun w' hw' => exec_row _ _ rfl w3.heap.size rfl (shA k) (load_ok blkSh w' _ _ hw'.2 (shA_size _))) ?_
  simp only [Act.put, List.setIfInBounds_toArray, List.set_cons_zero, List.set_cons_succ]
  refine mix_call 4 _ rfl rfl rfl 77 #[.agg #[.int .i64 n], .int .i64 i] (some 42) rfl ?hr4 ?_
  case hr4 => go_simp
  refine (spotAt_any n i h1 h2 (by omega) _).mono ?_
  rintro e w6 ⟨rfl, hb6'⟩
  have hb6 : Below w5.heap.size w5 w6 := ((Same.refl w5).drew w5.heap.size).trans hb6'
  have hB6 := bnext hB5 hb6
  have hz6 := hb6.size
  have hS6 : w6.heap[w1.heap.size]? = some (.cells (flA n (rw9 ts)) 72 (0, 0)) ∧ w6.heap[w3.heap.size]? = some (.cells (shA k) 58 (0, 0)) := ⟨(hb6.block _ (by omega)).trans hf5, (hb6.block _ (by omega)).trans hg5⟩
  refine ⟨_, rfl, hS6, ?_⟩
  simp only [Act.put, List.setIfInBounds_toArray, List.set_cons_zero, List.set_cons_succ]
  refine mix_call 5 _ rfl rfl rfl 76 #[.agg (flA n (rw9 ts)), .agg (spA n i)] (some 43) rfl ?hr5 ?_
  case hr5 =>
    go_simp
    rfl
  refine (HFO.out _).mono ?_
  rintro e w7 ⟨rfl, hb7⟩
  have hB7 := bnext hB6 hb7
  have hz7 := hb7.size
  have hS7 : w7.heap[w1.heap.size]? = some (.cells (flA n (rw9 ts)) 72 (0, 0)) ∧ w7.heap[w3.heap.size]? = some (.cells (shA k) 58 (0, 0)) := ⟨(hb7.block _ (by omega)).trans hS6.1, (hb7.block _ (by omega)).trans hS6.2⟩
  refine ⟨_, rfl, hS7, ?_⟩
  simp only [Act.put, List.setIfInBounds_toArray, List.set_cons_zero, List.set_cons_succ]
  refine mix_call 7 _ rfl rfl rfl 57 #[.agg (arrF 9 (rn9 ts n i)), .agg (shA k)] (some 45) rfl ?hr7 ?_
  case hr7 => go_simp
  refine (HE.out _).mono ?_
  rintro e w8 ⟨rfl, hb8⟩
  have hB8 := bnext hB7 hb8
  refine ⟨_, rfl, ⟨(hb8.block _ (by omega)).trans hS7.1, (hb8.block _ (by omega)).trans hS7.2⟩, ?_⟩
  simp only [Act.put, List.setIfInBounds_toArray, List.set_cons_zero, List.set_cons_succ]
  refine mix_take 8 _ ?_ rfl rfl rfl (some 8) rfl (fun w' hw' => ?hv8) ?_
  case hv8 =>
    go_simp
    with_reducible rfl
  simp only [Act.put, List.setIfInBounds_toArray, List.set_cons_zero, List.set_cons_succ]
  refine mix_take 9 _ ?_ rfl rfl rfl (some 9) rfl (fun w' hw' => ?hv9) ?_
  case hv9 =>
    go_simp
    with_reducible rfl
  simp only [Act.put, List.setIfInBounds_toArray, List.set_cons_zero, List.set_cons_succ]
  refine mix_done ?_
  go_wp2_with fail
  go_returns
  exact ⟨rfl, hB8⟩
end Go.Proofs.YtncpnkcdjfohgaaDoor
