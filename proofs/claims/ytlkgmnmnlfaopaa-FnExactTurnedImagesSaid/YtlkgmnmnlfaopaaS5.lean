import Derived.Test.YtlkgmnmnlfaopaaS4
namespace Go.Proofs.Ytlkgmnmnlfaopaa
open Go.RowKit
set_option maxRecDepth 4000
def mapR (n : Nat) (im : List (List Int)) : Array Value := if imB n im = true then mapA n im else zeroM
set_option maxHeartbeats 3200000 in
theorem mappedOf_side (n : Nat) (h1 : 1 ≤ n) (h2 : n ≤ 5) (im : List (List Int)) (a : Option Addr) (cap : Nat) (w : World) (h : RdSS w w.heap.size a im) :
    Calls Try.prog 96 #[.int .i64 n, .slice a im.length cap] w fun e w' => e = .returned (.tuple #[.agg (mapR n im), .bool (imB n im)]) ∧ Below w.heap.size w w' := by
  have hcn := cnt21 n h2
  have HRD := Lib.hid h
  have hm0 := h.1
  unfold maxLen at hm0
  have hb0 := balloc (Below.refl w.heap.size w) (.cells zeroM 87)
  have hz0 : (w.alloc (.cells zeroM 87)).heap.size = w.heap.size + 1 := by simp
  have hg0 := heap_alloc_new w (.cells zeroM 87)
  have hspn : (Try.prog.info? 79).map (·.size) = some 3 := blkSp.size
  clear h
  go_enter Try.func96, Try.ntmps96
  go_wp2_with (with_reducible refine alloc_blk zeroM run_alloc_map rfl rfl ?_)
  refine (mappedMeshOf_yes n h1 h2 _).mono ?_
  rintro e w1 ⟨rfl, hb1⟩
  have hg1 := (hb1.block w.heap.size (by omega)).trans hg0
  have hB1 := bnext hb0 hb1
  have hz1 := hb1.size
  rw [hz0] at hz1
  clear hb1 hb0 hg0 hz0
  have hg2 : (w1.alloc (.cells #[.int .i64 n] 75)).heap[w.heap.size]? = some (.cells zeroM 87 (0, 0)) := (Below.heap_alloc w1 _ _ (by omega)).trans hg1
  have hm2 := heap_alloc_new w1 (.cells #[.int .i64 n] 75)
  have hB2 := balloc hB1 (.cells #[.int .i64 n] 75)
  have hz2 : (w1.alloc (.cells #[.int .i64 n] 75)).heap.size = w1.heap.size + 1 := by simp
  go_wp2_with fail
  refine (size_any n (by omega) _).mono ?_
  rintro e w3 ⟨rfl, hb3⟩
  have hg3 := (hb3.block w.heap.size (by omega)).trans hg2
  have hm3 := (hb3.block w1.heap.size (by omega)).trans hm2
  have hB3 := bnext hB2 hb3
  have hz3 := hb3.size
  rw [hz2] at hz3
  have hmc3 := blk_cell hm3 0 (.int .i64 n) rfl
  clear hb3 hg2 hm2 hB2 hz2 hg1 hB1
  by_cases hl : im.length = Pr.cnt n
  · have hne : ((im.length : Int) != ((Pr.cnt n : Nat) : Int)) = false := by rw [hl]; simp
    have HL := Lib.hid hl
    have hl21 : im.length ≤ 21 := by omega
    clear hl
    go_wp2_with (first | (with_reducible refine alloc_blk zeroM run_alloc_map rfl rfl ?_) | ((with_reducible refine buildn_map rfl _ n rfl ?_ ?_); exact rfl) | ((with_reducible refine store_blk blkM rfl _ _ rfl w3.heap.size (mapF n fun _ => 0) zeroM ?_ ?_ (heap_alloc_new _ _) zeroM_size (mapF_size _ _) (mapF_one _ _) w3.heap.size (Nat.le_refl _) ?_); exact rfl; exact rfl; intro w4 hg4 hb4 hk4 hsz4))
    have hB4 : Below w.heap.size w w4 := (balloc hB3 _).trans (hb4.mono (by omega))
    have hz4 : w4.heap.size = w3.heap.size + 1 := by rw [hsz4]; simp
    have hm4 := ((hk4 w1.heap.size (by omega)).trans (Below.heap_alloc w3 _ _ (by omega))).trans hm3
    have hg04 := ((hk4 w.heap.size (by omega)).trans (Below.heap_alloc w3 _ _ (by omega))).trans hg3
    clear hb4 hk4 hsz4 hmc3 hm3 hg3 hB3
    go_wp2_with fail
    go_loopw [32] (fun v32 wr => ∃ (k : Nat) (f : Nat → Int), k ≤ im.length ∧ v32 = .int .i64 k ∧ wr.heap[w3.heap.size]? = some (.cells (mapF n f) 87 (0, 0)) ∧ (∀ q, q < 63 → f q = if q / 3 < k then mq im q else 0) ∧ wr.heap[w1.heap.size]? = some (.cells #[.int .i64 n] 75 (0, 0)) ∧ wr.heap[w.heap.size]? = some (.cells zeroM 87 (0, 0)) ∧ Below w.heap.size w wr ∧ w3.heap.size + 1 ≤ wr.heap.size ∧ ∀ j, j < k → ptI (3 * (n : Int)) (im.getD j []) = true) (fun v32 _ => im.length - (intOf v32).toNat)
    case atStart => exact ⟨0, fun _ => 0, Nat.zero_le _, rfl, hg4, fun q _ => by rw [if_neg (by omega)], hm4, hg04, hB4, by omega, by omega⟩
    case round =>
      clear hg4 hm4 hg04 hB4 hz4
      obtain ⟨k, f, hk, rfl, hg, hf, hm, hg0, hb, hz, hall⟩ := hrel
      obtain ⟨wq, rfl⟩ : ∃ wq : World, wq = wr := ⟨_, rfl⟩
      have HF := Lib.hid hf
      have HA := Lib.hid hall
      have HG0 := Lib.hid hg0
      clear hf hall hg0
      by_cases hlt : k < im.length
      · obtain ⟨-, b, off, hrow⟩ := rdss_later HRD.out hb
        obtain ⟨ha, hbl, ra, rc, c1, hr⟩ := hrow k hlt
        subst ha
        have hki : (k : Int) < (im.length : Int) := by omega
        have hk21 : (k : Int) < 21 := by omega
        have hmc := blk_cell hm 0 (.int .i64 n) rfl
        have HR := Lib.hid hr
        have HNO := Lib.hid (imB_no n im k hlt)
        have HX : Hid (ptI (3 * (n : Int)) (im.getD k []) = true → ∀ j, j < k + 1 → ptI (3 * (n : Int)) (im.getD j []) = true) := Lib.hid (fun hx j hj => by
          by_cases e : j = k
          · rw [e]; exact hx
          · exact HA.out j (by omega))
        have HQ : Hid (∀ q, q / 3 = k → mq im q = (im.getD k []).getD (q % 3) 0) := Lib.hid (fun q e => by rw [mq, iq, e])
        clear hrow hr HA
        generalize im.getD k [] = t at *
        go_wp2_with fail
        refine (imageOf_any n (by omega) t ra rc w.heap.size _ HR.out hb.size).mono ?_
        rintro e w4 ⟨x, y, z, rfl, hx, hb4⟩
        have hB4 := bnext hb hb4
        have hz4 := hb4.size
        have hG4 := (hb4.block w.heap.size (by omega)).trans HG0.out
        have hg4 := (hb4.block w3.heap.size (by omega)).trans hg
        have hm4 := (hb4.block w1.heap.size (by omega)).trans hm
        have hB5 := balloc hB4 (.cells #[.int .i64 x, .int .i64 y, .int .i64 z] 79)
        have hG5 := (Below.heap_alloc w4 (.cells #[.int .i64 x, .int .i64 y, .int .i64 z] 79) w.heap.size (by omega)).trans hG4
        have hg5 := (Below.heap_alloc w4 (.cells #[.int .i64 x, .int .i64 y, .int .i64 z] 79) w3.heap.size (by omega)).trans hg4
        have hm5 := (Below.heap_alloc w4 (.cells #[.int .i64 x, .int .i64 y, .int .i64 z] 79) w1.heap.size (by omega)).trans hm4
        have hz5 : (w4.alloc (.cells #[.int .i64 x, .int .i64 y, .int .i64 z] 79)).heap.size = w4.heap.size + 1 := by simp
        clear hb4 hB4 hG4 hg4 hm4 hg hm HG0 hb hmc
        cases hA : ptI (3 * (n : Int)) t
        · have hF := Lib.hid (HNO.out hA)
          have HM : Hid (mapR n im = zeroM) := Lib.hid (by rw [mapR, hF.out]; rfl)
          go_wp2_with (first | (with_reducible refine build0_blk zeroM run_build0_map rfl rfl ?_) | ((with_reducible refine store_blk blkM rfl _ _ rfl (w.heap.size) zeroM zeroM ?_ ?_ hG5 zeroM_size zeroM_size zeroM_one (w.heap.size) (Nat.le_refl _) ?_); exact rfl; exact rfl; intro w6 hg6 hb6 _ _))
          exact bodyPost_ret (results_blk blkM rfl _ _ (w.heap.size) _ _ rfl rfl hg6 zeroM_size) rfl ⟨by rw [HM.out, hF.out]; rfl, hB5.trans hb6⟩
        · have HAl := Lib.hid (HX.out hA)
          obtain ⟨rfl, rfl, rfl⟩ := hx hA
          have HW : Hid (mapF n (fun q => if q / 3 = k then [t.getD 0 0, t.getD 1 0, t.getD 2 0].getD (q % 3) 0 else f q) = ((mapF n f).toList.take (1 + k * 3) ++ (Value.agg (spA3 (t.getD 0 0) (t.getD 1 0) (t.getD 2 0))).cells.toList ++ (mapF n f).toList.drop (1 + k * 3 + 3)).toArray) := Lib.hid (mapF_win n f k (by omega) (t.getD 0 0) (t.getD 1 0) (t.getD 2 0)).symm
          have HE : Hid (∀ q, q < 63 → (if q / 3 = k then [t.getD 0 0, t.getD 1 0, t.getD 2 0].getD (q % 3) 0 else f q) = if q / 3 < k + 1 then mq im q else 0) := Lib.hid (fun q hq => by
            by_cases e : q / 3 = k
            · rw [if_pos e, if_pos (by omega), HQ.out q e]
              rcases (by omega : q % 3 = 0 ∨ q % 3 = 1 ∨ q % 3 = 2) with h | h | h <;> rw [h] <;> rfl
            · rw [if_neg e, HF.out q hq]
              congr 1
              simp only [eq_iff_iff]
              omega)
          clear hA hx HNO HX HQ HF HR
          generalize t.getD 0 0 = x at *
          generalize t.getD 1 0 = y at *
          generalize t.getD 2 0 = z at *
          have hone : ∀ u ∈ (Value.agg (spA3 x y z)).cells.toList, u.oneCell' = true := by simp [spA3, Value.cells, Value.oneCell']
          have hcs : (Value.agg (spA3 x y z)).cells.size = 3 := rfl
          have hfit : 1 + k * 3 + 3 ≤ (mapF n f).size := by rw [mapF_size]; omega
          go_wp2_with ((with_reducible refine store_win hspn rfl _ _ rfl (w3.heap.size) (1 + k * 3) (.agg (spA3 x y z)) (mapF n f) (mapF n (fun q => if q / 3 = k then [x, y, z].getD (q % 3) 0 else f q)) ?_ ?_ hg5 hcs hfit HW.out hone (w.heap.size) (by omega) ?_); exact rfl; exact rfl; intro w6 hg6 hb6 hk6 hz6; simp only [Act.put])
          have hB6 := hB5.trans hb6
          have hm6 := (hk6 w1.heap.size (by omega)).trans hm5
          have hG6 := (hk6 w.heap.size (by omega)).trans hG5
          clear hb6 hk6 hB5 hm5 hG5 hg5
          go_wp2_with fail
          go_roundw
          case rel => exact ⟨k + 1, _, by omega, by go_num, hg6, HE.out, hm6, hG6, hB6, by omega, HAl.out⟩
          case measure => simp [intOf]; omega
      · have hk2 : k = im.length := by omega
        have hT := Lib.hid (imB_yes n im HL.out (fun j hj => HA.out j (by omega)))
        have HM : Hid (mapR n im = mapA n im) := Lib.hid (by rw [mapR, hT.out]; rfl)
        have HE : Hid (mapF n f = mapA n im) := Lib.hid (mapF_congr n (fun q hq => by
          rw [HF.out q hq]
          by_cases e : q / 3 < k
          · rw [if_pos e]
          · rw [if_neg e, mq, iq_past HL.out _ _ (by have := HL.out; omega)]))
        rw [HE.out] at hg
        clear hk2 HF HE HA
        go_wp2_with (first | ((with_reducible refine load_blk blkM ?_ _ rfl w3.heap.size ?_ (mapA n im) hg (mapA_size _ _) ?_); exact rfl; exact rfl; simp only [Act.put, List.setIfInBounds_toArray, List.set_cons_zero, List.set_cons_succ]) | ((with_reducible refine store_blk blkM rfl _ _ rfl (w.heap.size) (mapA n im) zeroM ?_ ?_ HG0.out zeroM_size (mapA_size _ _) (mapA_one _ _) (w.heap.size) (Nat.le_refl _) ?_); exact rfl; exact rfl; intro w6 hg6 hb6 _ _))
        exact bodyPost_ret (results_blk blkM rfl _ _ (w.heap.size) _ _ rfl rfl hg6 (mapA_size _ _)) rfl ⟨by rw [HM.out, hT.out]; rfl, hb.trans hb6⟩
  · have hne : ((im.length : Int) != ((Pr.cnt n : Nat) : Int)) = true := by simp; omega
    have hF := Lib.hid (imB_len n im hl)
    have HM : Hid (mapR n im = zeroM) := Lib.hid (by rw [mapR, hF.out]; rfl)
    clear hl
    go_wp2_with (first | (with_reducible refine build0_blk zeroM run_build0_map rfl rfl ?_) | ((with_reducible refine store_blk blkM rfl _ _ rfl (w.heap.size) zeroM zeroM ?_ ?_ hg3 zeroM_size zeroM_size zeroM_one (w.heap.size) (Nat.le_refl _) ?_); exact rfl; exact rfl; intro w6 hg6 hb6 _ _))
    exact bodyPost_ret (results_blk blkM rfl _ _ (w.heap.size) _ _ rfl rfl hg6 zeroM_size) rfl ⟨by rw [HM.out, hF.out]; rfl, hB3.trans hb6⟩
end Go.Proofs.Ytlkgmnmnlfaopaa
