import Derived.Test.YtianmmjjcegkjaaDoorJ4
import Derived.Test.YtianmmjjcegkjaaDoorHh
namespace Go.Proofs.YtianmmjjcegkjaaDoor
open Go.RowKit
set_option maxRecDepth 4000
/-- A full board by the bits of a number: as far as the first k places. -/
def fvL (x k : Nat) : List Int := (List.range k).map fun i => ((1 + x / 2 ^ i % 2 : Nat) : Int)
theorem fvL_len (x k : Nat) : (fvL x k).length = k := by simp [fvL]
theorem fvL_succ (x k : Nat) : fvL x (k + 1) = fvL x k ++ [((1 + x / 2 ^ k % 2 : Nat) : Int)] := by simp [fvL, List.range_succ]
theorem fvL_12 (x k : Nat) : allB 1 2 (fvL x k) = true := by
  simp only [allB, List.all_eq_true, decide_eq_true_eq, fvL, List.mem_map, List.mem_range]
  rintro y ⟨i, _, rfl⟩
  omega
def fbL (s x k : Nat) : List Int := fvL x k ++ List.replicate (s - k) 0
theorem fbL_len {s x k : Nat} (h : k ≤ s) : (fbL s x k).length = s := by simp [fbL, fvL_len]; omega
theorem fbL_set {s x k : Nat} (h : k < s) : (fbL s x k).set k ((1 + x / 2 ^ k % 2 : Nat) : Int) = fbL s x (k + 1) := by
  unfold fbL
  rw [fvL_succ, List.set_append_right _ _ (by rw [fvL_len]; exact Nat.le_refl _), fvL_len, Nat.sub_self, show s - k = (s - (k + 1)) + 1 by omega, List.replicate_succ, List.set_cons_zero, List.append_assoc]
  rfl
theorem fbL_full (s x : Nat) : fbL s x s = fvL x s := by simp [fbL]
theorem fbL_none (s x : Nat) : fbL s x 0 = List.replicate s 0 := by simp [fbL, fvL]
theorem fbit_all : ∀ x : Nat, x < 512 → ∀ i : Nat, i < 9 → bits BinOp.and IntKind.i64 ((x : Int) / 2 ^ i) 1 = ((x / 2 ^ i % 2 : Nat) : Int) := by decide +kernel
theorem fmod_all : ∀ x : Nat, x < 512 → ∀ i : Nat, i < 9 → ((x : Int) / 2 ^ i).tmod 2 = ((x / 2 ^ i % 2 : Nat) : Int) := by decide +kernel
set_option maxHeartbeats 800000 in
theorem filled_any (n m s x : Nat) (hnm : n * m = s) (h9 : s ≤ 9) (hx : x < 512) (w : World) :
    Calls Tryd.prog 12 #[.agg #[.int .i64 n, .int .i64 m], .int .i64 x] w fun e w' => e = .returned (.agg (hbL n m (fvL x s)).toArray) ∧ Below w.heap.size w w' := by
  have HZ := Lib.hid (hb0_rep n m s (by omega))
  have HSZ := Lib.hid (fun w => gridSize_any n m s hnm (by omega) w)
  clear hnm
  have hB1 : Below w.heap.size w (((w.alloc (.cells #[.int .i64 n, .int .i64 m] 30)).alloc (.cells zeroH 36)).alloc (.cells zeroH 36)) := balloc (balloc (balloc (Below.refl w.heap.size w) _) _) _
  have hg0 : (((w.alloc (.cells #[.int .i64 n, .int .i64 m] 30)).alloc (.cells zeroH 36)).alloc (.cells zeroH 36)).heap[w.heap.size]? = some (.cells #[.int .i64 n, .int .i64 m] 30 (0, 0)) := (Below.heap_alloc _ _ _ (by simp; omega)).trans ((Below.heap_alloc _ _ _ (by simp)).trans (heap_alloc_new w _))
  have hr0 : (((w.alloc (.cells #[.int .i64 n, .int .i64 m] 30)).alloc (.cells zeroH 36)).alloc (.cells zeroH 36)).heap[w.heap.size + 1]? = some (.cells zeroH 36 (0, 0)) := by
    have e := heap_alloc_new (w.alloc (.cells #[.int .i64 n, .int .i64 m] 30)) (.cells zeroH 36)
    rw [World.size_alloc] at e
    exact (Below.heap_alloc _ _ _ (by simp)).trans e
  have hv0 : (((w.alloc (.cells #[.int .i64 n, .int .i64 m] 30)).alloc (.cells zeroH 36)).alloc (.cells zeroH 36)).heap[w.heap.size + 1 + 1]? = some (.cells zeroH 36 (0, 0)) := by
    have e := heap_alloc_new ((w.alloc (.cells #[.int .i64 n, .int .i64 m] 30)).alloc (.cells zeroH 36)) (.cells zeroH 36)
    rwa [World.size_alloc, World.size_alloc] at e
  have hfl := Lib.hid (fbL_full s x)
  have hfn := Lib.hid (fbL_none s x)
  go_enter Tryd.func12, Tryd.ntmps12
  go_wp2_with (first
    | ((with_reducible refine alloc_hb rfl rfl ?_); (try simp only [World.size_alloc, Act.put, List.setIfInBounds_toArray, List.set_cons_zero, List.set_cons_succ]))
    | ((with_reducible refine buildn_hb rfl _ n m rfl ?_ ?_); exact rfl; simp only [Act.put, List.setIfInBounds_toArray, List.set_cons_zero, List.set_cons_succ])
    | ((with_reducible refine store_blk blkHex rfl _ _ rfl (w.heap.size + 1 + 1) (hb0 n m) zeroH ?_ ?_ hv0 zeroH_size (hb0_size _ _) (hb0_one _ _) w.heap.size (by omega) ?_); exact rfl; exact rfl; intro w2 hg2 hb2 hk2 hs2; have hB2 := hB1.trans hb2; have hgg := (hk2 w.heap.size (by omega)).trans hg0; have hgr := (hk2 (w.heap.size + 1) (by omega)).trans hr0; have q0 := blk_cell hgg 0 (.int .i64 n) rfl; have q1 := blk_cell hgg 1 (.int .i64 m) rfl))
  rw [HZ.out, ← hfn.out] at hg2
  refine (HSZ.out _).mono ?_
  rintro e w3 ⟨rfl, hb3⟩
  have hz2 := (Array.getElem?_eq_some_iff.1 hg2).1
  have hg3 := Lib.hid ((hb3.block _ hz2).trans hg2)
  have hr3 := Lib.hid ((hb3.block (w.heap.size + 1) (by omega)).trans hgr)
  have hB3 := bnext hB2 hb3
  have hi9 : (s : Int) ≤ 9 := by omega
  clear hB1 hg0 hr0 hv0 hg2 hgg hgr q0 q1 hB2 hb2 hk2 hb3 hz2 hs2
  go_wp2_with fail
  go_loopw [11] (fun v11 wr => ∃ k : Nat, k ≤ s ∧ v11 = .int .i64 k ∧ Hid (wr.heap[w.heap.size + 1 + 1]? = some (.cells (hbL n m (fbL s x k)).toArray 36 (0, 0))) ∧ Hid (wr.heap[w.heap.size + 1]? = some (.cells zeroH 36 (0, 0))) ∧ Below w.heap.size w wr) (fun v11 _ => s - (intOf v11).toNat)
  case atStart => exact ⟨0, Nat.zero_le _, rfl, hg3, hr3, hB3⟩
  case round =>
    clear hg3 hr3 hB3
    obtain ⟨k, hk, rfl, hg, hr, hb⟩ := hrel
    obtain ⟨wq, hwq⟩ : ∃ wq : World, wq = wr := ⟨_, rfl⟩
    subst hwq
    by_cases hlt : k < s
    · have hki : (k : Int) < (s : Int) := by omega
      have hk30 : (k : Int) < 30 := by omega
      have hk9 : (k : Int) < 9 := by omega
      have hkn : k < 30 := by omega
      have hbit := fbit_all x hx k (by omega)
      have hset := Lib.hid (fbL_set (x := x) hlt)
      have hLl := fbL_len (s := s) (x := x) hk
      have hLs := Lib.hid (hb_set n m (fbL s x k) k ((1 + x / 2 ^ k % 2 : Nat) : Int) (by omega))
      have hsz := hbL_size n m (fbL s x k) (by omega)
      generalize hbv : x / 2 ^ k % 2 = bv at *
      have hbv2 : bv ≤ 1 := by omega
      clear hbv hLl
      have HNW : Hid ((hbL n m (fbL s x (k + 1))).toArray = ((hbL n m (fbL s x k)).toArray.toList.take (2 + k) ++ (Value.int .i64 (1 + (bv : Int))).cells.toList ++ (hbL n m (fbL s x k)).toArray.toList.drop (2 + k + 1)).toArray) := Lib.hid (by
        rw [← hset.out, ← hLs.out]
        apply Array.ext'
        rw [Array.toList_setIfInBounds, List.set_eq_take_append_cons_drop, if_pos (by rw [Array.length_toList, hsz]; omega)]
        simp [Value.cells])
      clear hset hLs
      go_wp2_with (first
        | ((with_reducible refine store_win szI rfl _ _ rfl (w.heap.size + 1 + 1) (2 + k) (.int .i64 (1 + (bv : Int))) (hbL n m (fbL s x k)).toArray (hbL n m (fbL s x (k + 1))).toArray ?_ ?_ hg.out ?_ ?_ ?_ ?_ w.heap.size (by omega) ?_); exact rfl; exact rfl; exact rfl; (rw [hsz]; omega); exact HNW.out; (simp [Value.cells, Value.oneCell']); intro w4 hg4 hb4 hk4 hs4))
      go_roundw
      case rel => exact ⟨k + 1, by omega, by go_num, Lib.hid hg4, Lib.hid ((hk4 _ (by omega)).trans hr.out), hb.trans hb4⟩
      case measure => simp [intOf]; omega
    · have hk2 : k = s := by omega
      subst hk2
      rw [hfl.out] at hg
      have hg' := hg.out
      have hr' := hr.out
      have hsz := hbL_size n m (fvL x k) (by rw [fvL_len]; omega)
      have hone := hbL_one n m (fvL x k)
      clear hg hr
      go_wp2_with (first
        | ((with_reducible refine load_blk blkHex ?_ _ rfl (w.heap.size + 1 + 1) ?_ (hbL n m (fvL x k)).toArray hg' hsz ?_); exact rfl; exact rfl; simp only [Act.put, List.setIfInBounds_toArray, List.set_cons_zero, List.set_cons_succ])
        | ((with_reducible refine store_blk blkHex rfl _ _ rfl (w.heap.size + 1) (hbL n m (fvL x k)).toArray zeroH ?_ ?_ hr' zeroH_size hsz hone w.heap.size (by omega) ?_); exact rfl; exact rfl; intro w6 hg6 hb6 hk6 hs6))
      exact bodyPost_ret (results_blk1 blkHex rfl _ _ (w.heap.size + 1) _ rfl hg6 hsz) rfl ⟨rfl, hb.trans hb6⟩
end Go.Proofs.YtianmmjjcegkjaaDoor
