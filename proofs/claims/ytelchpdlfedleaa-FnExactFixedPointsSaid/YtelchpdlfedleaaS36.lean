import Derived.Test.YtelchpdlfedleaaS35
import Derived.Test.YtelchpdlfedleaaS34
import Derived.Test.YtelchpdlfedleaaS30
namespace Go.Proofs.Ytelchpdlfedleaa
open Go.RowKit
set_option maxRecDepth 4000
/-- A fixed point's line: its cell and its weights. -/
def fwr (im : List (List Int)) (n k : Nat) : List Int := (k : Int) :: wtK im n k
theorem fwr_eq (im : List (List Int)) (n k : Nat) : fwr im n k = [(k : Int)] ++ [wq' im n k 0, wq' im n k 1, wq' im n k 2] := rfl
def fwL (im : List (List Int)) (n m : Nat) : List (List Int) := (ksL im n m).map (fwr im n)
def flW (im : List (List Int)) (n : Nat) (ks : List Nat) (i : Nat) : List (List Int) := (ks.take i).map (fwr im n)
theorem fwL_yes (im : List (List Int)) (n k : Nat) (h : agK im n k = true) : fwL im n (k + 1) = fwL im n k ++ [fwr im n k] := by rw [fwL, fwL, ksL_yes _ _ _ h, List.map_append]; rfl
theorem fwL_no (im : List (List Int)) (n k : Nat) (h : agK im n k = false) : fwL im n (k + 1) = fwL im n k := by rw [fwL, fwL, ksL_no _ _ _ h]
theorem fwL_len (im : List (List Int)) (n m : Nat) : (fwL im n m).length ≤ m := by rw [fwL, List.length_map]; exact ksL_len im n m
theorem cells_nb {w : World} {base g : Nat} {v : Value} {cs : List (List Int)} {c : Array Value} {t : TypeId} (h : CellsV w base v cs) (hg : w.heap[g]? = some (.cells c t (0, 0))) (ht : t ≠ 27) : some g ≠ v.ownBlock := by
  obtain ⟨vs, h1, -, -⟩ := h
  exact own_nb6 h1 hg ht
theorem own_one {w : World} {x : Int} : (w.alloc (.cells #[.int .i64 x] 3)).ownsRow w.heap.size 3 1 (.slice (some ⟨w.heap.size, 0, none⟩) 1 1) [x].length ([x].map (Value.int .i64)) :=
  own_block (cap := 1) (xs := [x]) (Nat.le_refl _) (heap_alloc_new w _) rfl rfl (by simp [maxLen])
set_option maxHeartbeats 3200000 in
theorem specFixedPoints_yes0 (n : Nat) (h1 : 1 ≤ n) (h2 : n ≤ 5) (im : List (List Int)) (hy : imB n im = true) (hr : regB im n = true) (a : Option Addr) (cap : Nat) (w : World) (h : RdSS w w.heap.size a im) :
    Calls Try.prog 39 #[.int .i64 n, .slice a im.length cap] w fun e w' => ∃ v, e = .returned (.tuple #[v, .bool true]) ∧ CellsV w' w.heap.size v (fwL im n (ci n).length) ∧ Below w.heap.size w w' := by
  have HT := Lib.hid (fxGood_yes n h1 h2 im hy a cap _ w h)
  have HR := Lib.hid (fun w' (hs : Same w w') => fxRegular_any n h1 h2 im hy a cap w' (rdss_mono (rdss_same h hs) (hs w.heap.size).size))
  have he := Lib.hid (ci_eq n (by omega) h1)
  have h64 := ci_len64 n (by omega)
  have HK := Lib.hid (fun w' k (hk : k < (ci n).length) rc rb (hb : Below w.heap.size w w') hr hl => fxIn_cell n k h1 h2 hk im hy a cap rc rb w' (rdss_mono (rdss_later h hb) hb.size) hr hl)
  have HS := Lib.hid (fun w' k (hk : k < (ci n).length) hg rc rb (hb : Below w.heap.size w w') hr hl => fxWeights_cell n k h1 h2 hk im hy hg a cap rc rb w' (rdss_mono (rdss_later h hb) hb.size) hr hl)
  have HAG := Lib.hid (fun k (hk : k < (ci n).length) => reg_ag im n k (regB_at hr k hk))
  have HY := Lib.hid (fwL_yes im n)
  have HN := Lib.hid (fwL_no im n)
  have HLN := Lib.hid (fwL_len im n)
  have HR0 : Hid (regB im n = true) := Lib.hid hr
  have HK0 : Hid (fwL im n 0 = []) := Lib.hid rfl
  clear h hy hr
  go_enter Try.func39, Try.ntmps39
  go_wp2_with fail
  refine HT.out.mono ?_
  rintro e w1 ⟨rfl, hs⟩
  go_wp2_with fail
  refine (HR.out _ hs).mono ?_
  rintro e w2 ⟨rfl, hb2⟩
  rw [HR0.out]
  have hB2 := bnext (hs w.heap.size) hb2
  clear hs hb2
  go_wp2_with fail
  refine (meCells_any n h1 (by omega) _).mono ?_
  rintro e w3 ⟨v, rfl, hc, hb3⟩
  rw [← he.out] at hc
  obtain ⟨sa, m, sc, rfl⟩ := cells_shape hc
  obtain ⟨rfl, -, -⟩ := cells_row hc
  have hB3 := bnext hB2 hb3
  have hz3 := hB3.size
  clear hB2 hb3
  go_wp2_with fail
  go_loopw [6, 22] (fun v6 v22 wr => ∃ k : Nat, k ≤ (ci n).length ∧ v22 = .int .i64 k ∧ CellsV wr w3.heap.size v6 (fwL im n k) ∧ Below w3.heap.size w3 wr) (fun _ v22 _ => (ci n).length - (intOf v22).toNat)
  case atStart => exact ⟨0, Nat.zero_le _, rfl, by rw [HK0.out]; exact cells_nil _ _, Below.refl _ _⟩
  case round =>
    obtain ⟨k, hk, rfl, ho, hb⟩ := hrel
    obtain ⟨wq, rfl⟩ : ∃ wq : World, wq = wr := ⟨_, rfl⟩
    by_cases hlt : k < (ci n).length
    · obtain ⟨-, g, rc, rb, rfl, hgl, c1, hrd, hrb⟩ := spec_cell6 (by omega) hc hlt
      have c1 := (hb.cell (p := ⟨g, k, none⟩) hgl).trans c1
      have hr1 := hrd.below hb (.inr hrb)
      have hz := hb.size
      have HX := Lib.hid (HK.out wq k hlt rc rb (bnext hB3 hb) hr1 (by omega))
      have HSX := Lib.hid (fun w' hg (hb' : Below wq.heap.size wq w') => HS.out w' k hlt hg rc rb (bnext (bnext hB3 hb) hb') (hr1.below hb' (.inr (by omega))) (by have := hb'.size; omega))
      have HA := Lib.hid (HAG.out k hlt)
      have HYk := Lib.hid (HY.out k)
      have HNk := Lib.hid (HN.out k)
      have hlk := HLN.out k
      have hki : (k : Int) < ((ci n).length : Int) := by omega
      clear hrd hr1
      go_wp2_with fail
      refine HX.out.mono ?_
      rintro e w4 ⟨rfl, hb4⟩
      have hB4 := bnext hb hb4
      have ho4 := cells_now ho hb4
      have hz4 := hB4.size
      cases hG : agK im n k
      · have HE := Lib.hid (HNk.out hG)
        have hd : (hasK im n k != 0) = false := HA.out.trans hG
        clear hG
        go_wp2_with fail
        go_roundw
        case rel => exact ⟨k + 1, by omega, by go_num, by rw [HE.out]; exact ho4, hB4⟩
        case measure => simp [intOf]; omega
      · have HE := Lib.hid (HYk.out hG)
        have hd : (hasK im n k != 0) = true := HA.out.trans hG
        have hba := balloc (Below.refl w4.heap.size w4) (.cells #[.int .i64 (k : Nat)] 3)
        have HS2 := Lib.hid (HSX.out (w4.alloc (.cells #[.int .i64 (k : Nat)] 3)) hG (hb4.trans (hba.mono hb4.size)))
        clear hG
        go_wp2_with fail
        refine HS2.out.mono ?_
        rintro e w5 ⟨v5, rfl, hv5, hb5⟩
        obtain ⟨vc, vb, rfl, hrd5, -, -⟩ := oi_three hv5
        have f0 := (hrd5.2 0 (by simp)).2
        have f1 := (hrd5.2 1 (by simp)).2
        have f2 := (hrd5.2 2 (by simp)).2
        have hO5 := own_now (own_one (w := w4) (x := (k : Nat))) hb5
        have hB5 := bnext hba hb5
        have hz5 := hB5.size
        have HF : Hid ([((k : Nat) : Int)] ++ [wq' im n k 0, wq' im n k 1, wq' im n k 2] = fwr im n k) := Lib.hid rfl
        clear hrd5 hv5 hba hb5
        go_wp2_with (first | (at_builtin; refine append_row w3.heap.size _ w4 w6 _ _ (fwL im n k) (fwr im n k) rfl _ _ rfl rfl rfl rfl ho4 hbw ho6 rfl hz4 (by omega) ?_; intro v' w7 hc7 hb7) | (at_builtin; refine append_three w4.heap.size vb 0 vc _ _ [((k : Nat) : Int)] (wq' im n k 0) (wq' im n k 1) (wq' im n k 2) rfl _ _ rfl rfl rfl f0 f1 f2 hO5 hz5 (by simp) ?_; intro v6 w6 ho6 hb6; rw [HF.out] at ho6; have hbw := hB5.trans hb6; obtain ⟨-, ua, uc, ub, rfl, -, -⟩ := own_shape ho6))
        go_roundw
        case rel => exact ⟨k + 1, by omega, by go_num, by rw [HE.out]; exact hc7, (hB4.trans (hbw.mono hz4)).trans hb7⟩
        case measure => simp [intOf]; omega
    · have hk2 : k = (ci n).length := by omega
      rw [hk2] at ho
      clear hk2
      obtain ⟨va, vm, vc, rfl⟩ := cells_shape ho
      go_wp2_with fail
      go_returns
      exact ⟨_, rfl, cells_base ho hz3, bnext hB3 hb⟩
set_option maxHeartbeats 6400000 in
theorem implFixedPoints_yes0 (n : Nat) (h1 : 1 ≤ n) (h2 : n ≤ 5) (im : List (List Int)) (hy : imB n im = true) (hr : regB im n = true) (a : Option Addr) (cap : Nat) (w : World) (h : RdSS w w.heap.size a im) :
    Calls Try.prog 40 #[.int .i64 n, .slice a im.length cap] w fun e w' => ∃ v, e = .returned (.tuple #[v, .bool true]) ∧ CellsV w' w.heap.size v (fwL im n (ci n).length) ∧ Below w.heap.size w w' := by
  have HC := Lib.hid (mappedOf_yes n h1 h2 im hy a cap w h)
  have HL := Lib.hid (fun w => isRegular_any n h1 h2 im hy w)
  have HF := Lib.hid (fun w => fixedPoints_any n h1 h2 im hy w)
  have hK := ksL_len im n (ci n).length
  have h64 := ci_len64 n (by omega)
  have HSG : Hid (fwL im n (ci n).length = flW im n (ksL im n (ci n).length) (ksL im n (ci n).length).length) := Lib.hid (by rw [flW, List.take_length]; rfl)
  have HR0 : Hid (regB im n = true) := Lib.hid hr
  clear h hy hr
  generalize ksL im n (ci n).length = ks at *
  have HF0 : Hid (flW im n ks 0 = []) := Lib.hid rfl
  have HFS := Lib.hid (take_map_succ (fwr im n) ks)
  have HFL : Hid (∀ i, (flW im n ks i).length ≤ ks.length) := Lib.hid (fun i => by rw [flW, List.length_map, List.length_take]; omega)
  go_enter Try.func40, Try.ntmps40
  go_wp2_with fail
  refine (HC.out).mono ?_
  rintro e w1 ⟨rfl, hb1⟩
  have hz1 := hb1.size
  go_wp2_with (first | (with_reducible refine alloc_blk zeroM run_alloc_map rfl rfl ?_) | ((with_reducible refine store_blk blkM rfl _ _ rfl w1.heap.size (mapA n im) zeroM ?_ ?_ (heap_alloc_new _ _) zeroM_size (mapA_size _ _) (mapA_one _ _) w1.heap.size (Nat.le_refl _) ?_); exact rfl; exact rfl; intro w2 hg2 hb2 hk2 hz2; have hB2 : Below w.heap.size w w2 := (balloc hb1 _).trans (hb2.mono hz1)) | ((with_reducible refine load_blk blkM ?_ _ rfl (w1.heap.size) ?_ (mapA n im) hg2 (mapA_size _ _) ?_); exact rfl; exact rfl; simp only [Act.put, List.setIfInBounds_toArray, List.set_cons_zero, List.set_cons_succ]))
  refine (HL.out _).mono ?_
  rintro e w3 ⟨rfl, hb3⟩
  rw [HR0.out]
  have hB3 := bnext hB2 hb3
  have hg3 := heap_later hg2 hb3
  clear hb3 hB2 hb2 hk2 hz2 hg2 hb1
  go_wp2_with (first | ((with_reducible refine load_blk blkM ?_ _ rfl (w1.heap.size) ?_ (mapA n im) hg3 (mapA_size _ _) ?_); exact rfl; exact rfl; simp only [Act.put, List.setIfInBounds_toArray, List.set_cons_zero, List.set_cons_succ]))
  refine (HF.out _).mono ?_
  rintro e w4 ⟨v, rfl, hfp, hb4⟩
  obtain ⟨fa, fcap, fb, rfl, hrd⟩ := fp_shape hfp
  have hB4 := bnext hB3 hb4
  have hz4 := hB4.size
  have HRD := Lib.hid hrd
  clear hfp hrd hb4 hB3 hg3
  go_wp2_with fail
  go_loopw [8, 27] (fun v8 v27 wr => ∃ i : Nat, i ≤ ks.length ∧ v27 = .int .i64 i ∧ CellsV wr w4.heap.size v8 (flW im n ks i) ∧ Below w4.heap.size w4 wr) (fun _ v27 _ => ks.length - (intOf v27).toNat)
  case atStart => exact ⟨0, Nat.zero_le _, rfl, by rw [HF0.out]; exact cells_nil _ _, Below.refl _ _⟩
  case round =>
    obtain ⟨i, hi, rfl, ho, hb⟩ := hrel
    obtain ⟨wq, rfl⟩ : ∃ wq : World, wq = wr := ⟨_, rfl⟩
    by_cases hlt : i < ks.length
    · obtain ⟨rfl, hfb, hc⟩ := HRD.out i hlt
      have HE : Hid (flW im n ks (i + 1) = flW im n ks i ++ [fwr im n (ks.getD i 0)]) := Lib.hid (HFS.out i hlt)
      have hlk := HFL.out i
      have hq : ∀ t, t < 5 → wq.cell? ⟨fb, i * 5 + t, none⟩ = some (.int .i64 ((fpr im n (ks.getD i 0)).getD t 0)) := fun t ht => (hb.cell (p := ⟨fb, i * 5 + t, none⟩) hfb).trans (hc t ht)
      have c0 : wq.cell? ⟨fb, i * 5, none⟩ = some (.int .i64 (ks.getD i 0 : Nat)) := hq 0 (by omega)
      have c1 : wq.cell? ⟨fb, i * 5 + 1, none⟩ = some (.int .i64 (wq' im n (ks.getD i 0) 0)) := hq 1 (by omega)
      have c2 : wq.cell? ⟨fb, i * 5 + 2, none⟩ = some (.int .i64 (wq' im n (ks.getD i 0) 1)) := hq 2 (by omega)
      have c3 : wq.cell? ⟨fb, i * 5 + 3, none⟩ = some (.int .i64 (wq' im n (ks.getD i 0) 2)) := hq 3 (by omega)
      have c4 : wq.cell? ⟨fb, i * 5 + 4, none⟩ = some (.int .i64 (sgK im n (ks.getD i 0))) := hq 4 (by omega)
      have hki : (i : Int) < (ks.length : Int) := by omega
      clear hq hc
      generalize ks.getD i 0 = k at *
      obtain ⟨w5, hw5⟩ : ∃ w5, w5 = wq.alloc (.cells (fp5 (k : Nat) (wq' im n k 0) (wq' im n k 1) (wq' im n k 2) (sgK im n k)) 81) := ⟨_, rfl⟩
      have hba5 : Below wq.heap.size wq w5 := by rw [hw5]; exact balloc (Below.refl wq.heap.size wq) _
      have hg : w5.heap[wq.heap.size]? = some (.cells (fp5 (k : Nat) (wq' im n k 0) (wq' im n k 1) (wq' im n k 2) (sgK im n k)) 81 (0, 0)) := by rw [hw5]; exact heap_alloc_new wq _
      have hzw : w5.heap.size = wq.heap.size + 1 := by rw [hw5]; simp
      have HW5 := Lib.hid hw5
      have hoq := cells_now ho hba5
      have hzq := hb.size
      have hbq := hb.trans (hba5.mono hzq)
      have hz5 := hbq.size
      clear hb ho hw5
      go_wp2_with fail
      change (Code.region _ _ _).wp _ _ _ (wq.alloc (.cells (fp5 (k : Nat) (wq' im n k 0) (wq' im n k 1) (wq' im n k 2) (sgK im n k)) 81))
      rw [← HW5.out]
      refine wp_region_mix (fun w' => w'.heap[wq.heap.size]? = some (.cells (fp5 (k : Nat) (wq' im n k 0) (wq' im n k 1) (wq' im n k 2) (sgK im n k)) 81 (0, 0))) [3, 6, 7, 8] [0, 1, 2, 4, 5, 3, 6, 7, 8, 9] (by kernel_rfl) (by kernel_rfl) (fun _ _ d _ _ h => by cases d <;> exact h) (by kernel_rfl) rfl hg ?_
      refine mix_take 0 _ ?_ rfl rfl rfl (some 31) rfl (fun w' hw' => ?hv0) ?_
      case hv0 =>
        go_simp
        with_reducible rfl
      simp only [Act.put, List.setIfInBounds_toArray, List.set_cons_zero, List.set_cons_succ]
      refine mix_take 1 _ ?_ rfl rfl rfl (some 32) rfl (fun w' hw' => ?hv1) ?_
      case hv1 =>
        go_simp
        with_reducible rfl
      simp only [Act.put, List.setIfInBounds_toArray, List.set_cons_zero, List.set_cons_succ]
      refine mix_take 2 _ ?_ rfl rfl rfl (some 33) rfl (fun w' hw' => ?hv2) ?_
      case hv2 =>
        have s0 := blk_cell (w := w') hw' 0 (.int .i64 (k : Nat)) rfl
        go_simp
        with_reducible rfl
      simp only [Act.put, List.setIfInBounds_toArray, List.set_cons_zero, List.set_cons_succ]
      refine mix_take 4 _ ?_ rfl rfl rfl (some 35) rfl (fun w' hw' => ?hv4) ?_
      case hv4 =>
        go_simp
        with_reducible rfl
      simp only [Act.put, List.setIfInBounds_toArray, List.set_cons_zero, List.set_cons_succ]
      refine mix_take 5 _ ?_ rfl rfl rfl (some 36) rfl (fun w' hw' => ?hv5) ?_
      case hv5 =>
        go_simp
        with_reducible rfl
      simp only [Act.put, List.setIfInBounds_toArray, List.set_cons_zero, List.set_cons_succ]
      have hbd : Below w5.heap.size w5 w5.drew := (Same.refl w5).drew w5.heap.size
      have hb6a := balloc hbd (.cells #[.int .i64 (k : Nat)] 3)
      have hg6 := heap_later hg hb6a
      refine mix_build_int 3 _ rfl rfl rfl _ rfl (some 34) rfl (k : Nat) rfl ⟨hg6, ?_⟩
      simp only [Act.put, List.setIfInBounds_toArray, List.set_cons_zero, List.set_cons_succ]
      refine mix_append_three 6 _ rfl rfl w5.heap.size wq.heap.size 1 _ _ [((k : Nat) : Int)] (wq' im n k 0) (wq' im n k 1) (wq' im n k 2) rfl _ _ rfl (some 37) rfl rfl rfl (blk_cell hg6 1 _ rfl) (blk_cell hg6 2 _ rfl) (blk_cell hg6 3 _ rfl) (own_one (w := w5.drew)) hb6a.size (by simp) ?_
      intro v6 w6 ho6 hb6 hk6
      have hb56 := hb6a.trans hb6
      have hg7 := heap_later hg hb56
      rw [show [((k : Nat) : Int)] ++ [wq' im n k 0, wq' im n k 1, wq' im n k 2] = fwr im n k from rfl] at ho6
      obtain ⟨-, ua, uc, ub, rfl, -, -⟩ := own_shape ho6
      refine ⟨hg7, ?_⟩
      simp only [Act.put, List.setIfInBounds_toArray, List.set_cons_zero, List.set_cons_succ]
      have hg8 := heap_later hg7 (balloc (Below.refl w6.heap.size w6) (.cells #[.slice ua (fwr im n k).length uc] 27))
      refine mix_build_row 7 _ rfl rfl rfl _ rfl (some 38) rfl _ _ _ rfl ⟨hg8, ?_⟩
      simp only [Act.put, List.setIfInBounds_toArray, List.set_cons_zero, List.set_cons_succ]
      have hlt8 : wq.heap.size < w6.heap.size := (Array.getElem?_eq_some_iff.1 hg7).1
      refine mix_append_row 8 _ rfl rfl w4.heap.size _ w5 w6 u8 (.slice ua (fwr im n k).length uc) (flW im n ks i) (fwr im n k) rfl (.tmp 31) (.tmp 38) rfl (some 39) rfl rfl rfl rfl hoq hb56 ho6 rfl hz5 (by omega) ?_
      intro v7 w7 hc7 hb7 hk7
      refine ⟨(hk7 _ hlt8 (cells_nb hoq hg (by decide))).trans hg7, ?_⟩
      simp only [Act.put, List.setIfInBounds_toArray, List.set_cons_zero, List.set_cons_succ]
      refine mix_take 9 _ ?_ rfl rfl rfl (some 8) rfl (fun w' hw' => ?hv9) ?_
      case hv9 =>
        go_simp
        with_reducible rfl
      simp only [Act.put, List.setIfInBounds_toArray, List.set_cons_zero, List.set_cons_succ]
      refine mix_done ?_
      have hB7 := (hbq.trans (hb56.mono hz5)).trans hb7
      clear hg hg6 hg7 hg8 hk7 hk6 hbd hb6a hb6
      go_wp2_with fail
      go_roundw
      case rel => exact ⟨i + 1, by omega, by go_num, by rw [HE.out]; exact hc7, hB7⟩
      case measure => simp [intOf]; omega
    · have hk2 : i = ks.length := by omega
      rw [hk2] at ho
      clear hk2
      obtain ⟨va, vm, vc, rfl⟩ := cells_shape ho
      go_wp2_with fail
      go_returns
      exact ⟨_, rfl, by rw [HSG.out]; exact cells_base ho hz4, bnext hB4 hb⟩
end Go.Proofs.Ytelchpdlfedleaa
