import Derived.Test.YtfhohmahckjpeaaDoorL1
import Derived.Test.YtfhohmahckjpeaaDoorK8
import Derived.Test.YtfhohmahckjpeaaDoorQw
namespace Go.Proofs.YtfhohmahckjpeaaDoor
open Go.RowKit
set_option maxRecDepth 4000
theorem blk_load8 {ty : TypeId} {n : Nat} (bk : Blk ty n) (w : World) (g : Nat) (cs : Array Value) (hg : w.heap[g]? = some (.cells cs ty (0, 0))) (hc : cs.size = n) : (loadVar ty ⟨g, 0, none⟩).run Tryd.prog w = .ok (.agg cs) w := by
  rcases bk.und with ⟨_, hu⟩ | ⟨_, _, hu⟩ <;> exact run_loadVar_row (P := Tryd.prog) w g ty ty cs (0, 0) _ hg hu rfl (by rw [bk.size, hc])
theorem callTold : ∀ (args : Array Value) (w : World), (callFunc 15 args).run Tryd.prog w = .ok (.enter 15 args) w := fun _ _ => rfl
def tldC (n k s : Nat) : Nat := min (lsi s) (fewK n k - 1)
theorem few_pos (n k : Nat) : 1 ≤ fewK n k := by unfold fewK; split <;> omega
theorem few_le (n k : Nat) (h : n ≤ 8) : fewK n k ≤ 10 := by unfold fewK; split <;> omega
set_option maxHeartbeats 1600000 in
theorem told_any (a : Option Addr) (len cap n k s : Nat) (hn : n ≤ 8) (hk : k ≤ 8) (h0 : 0 < s) (hs : s < 256) (w : World) (hv : DbV w) :
    Calls Tryd.prog 15 #[.agg #[.slice a len cap, .int .i64 n, .int .i64 k], .int .i64 s] w fun e w' => e = .returned (.int .i64 (tldC n k s : Nat)) ∧ Below w.heap.size w w' := by
  obtain ⟨w1, hw1⟩ : ∃ w1, w1 = w.alloc (.cells #[.slice a len cap, .int .i64 n, .int .i64 k] 33) := ⟨_, rfl⟩
  have hb1 : Below w.heap.size w w1 := by rw [hw1]; exact balloc (Below.refl w.heap.size w) _
  have g1 : w1.heap[w.heap.size]? = some (.cells #[.slice a len cap, .int .i64 n, .int .i64 k] 33 (0, 0)) := by rw [hw1]; exact heap_alloc_new w _
  have hl := hp_lt g1
  have hv1 := DbV_later hv hb1
  have HL := Lib.hid (fun w' hv' => least_any8 s h0 hs w' hv')
  have HF := Lib.hid (fun w' => fewest_any a len cap n k hn hk w')
  have hfp := few_pos n k
  have hfl := few_le n k hn
  have hls := lsi_lt s hs h0
  have HT : Hid (tldC n k s = min (lsi s) (fewK n k - 1)) := Lib.hid rfl
  have HW := Lib.hid hw1
  have HG := Lib.hid g1
  have hbd : Below w1.heap.size w1 w1.drew := (Same.refl w1).drew _
  have hvd : DbV w1.drew := DbV_later hv1 hbd
  clear hw1 g1 hv
  generalize lsi s = q at *
  generalize fewK n k = f at *
  have hT2 : Hid (((min q (f - 1) : Nat) : Int) = min (q : Int) ((f : Int) - 1)) := Lib.hid (by omega)
  go_enter Tryd.func15, Tryd.ntmps15
  go_wp2_with fail
  rw [← HW.out]
  refine wp_region_mt (fun w' => Below w1.heap.size w1 w') (.take 0 (.take 2 (.sole 1 (.sole 3 (.take 4 (.take 5 (.take 6 .done))))))) (by kernel_rfl) (by kernel_rfl) (fun _ _ d _ _ h => by cases d <;> exact h) (by kernel_rfl) rfl hbd ?_
  refine mt_take 0 _ ?_ rfl rfl (some 5) rfl (fun w' hw' => ?hv0) ?_
  case hv0 =>
    go_simp
    with_reducible rfl
  simp only [Act.put, List.setIfInBounds_toArray, List.set_cons_zero, List.set_cons_succ]
  refine mt_take 2 _ (.agg #[.slice a len cap, .int .i64 n, .int .i64 k]) rfl rfl (some 7) rfl (fun w' hw' => exec_row _ _ rfl (w.heap.size) rfl #[.slice a len cap, .int .i64 n, .int .i64 k] (blk_load8 blkKG w' _ _ (hp_keep HG.out (hw' : Below w1.heap.size w1 w') hl) rfl)) ?_
  simp only [Act.put, List.setIfInBounds_toArray, List.set_cons_zero, List.set_cons_succ]
  refine mt_call 1 _ rfl rfl 20 #[.int .i64 s] (some 6) rfl ?hr ?_
  case hr => go_simp
  refine (HL.out _ hvd).mono ?_
  rintro e x ⟨rfl, rfl⟩
  refine ⟨_, rfl, hbd, ?_⟩
  simp only [Act.put, List.setIfInBounds_toArray, List.set_cons_zero, List.set_cons_succ]
  refine mt_call 3 _ rfl rfl 21 #[.agg #[.slice a len cap, .int .i64 n, .int .i64 k]] (some 8) rfl ?hr ?_
  case hr => go_simp
  refine (HF.out _).mono ?_
  rintro e w2 ⟨rfl, hb2⟩
  have hBB : Below w1.heap.size w1 w2 := hbd.trans hb2
  refine ⟨_, rfl, hBB, ?_⟩
  simp only [Act.put, List.setIfInBounds_toArray, List.set_cons_zero, List.set_cons_succ]
  refine mt_take 4 _ ?_ rfl rfl (some 9) rfl (fun w' hw' => ?hv4) ?_
  case hv4 =>
    go_simp
    with_reducible rfl
  simp only [Act.put, List.setIfInBounds_toArray, List.set_cons_zero, List.set_cons_succ]
  refine mt_take 5 _ (.int .i64 (min q (f - 1) : Nat)) rfl rfl (some 10) rfl (fun w' hw' => ?hv5) ?_
  case hv5 =>
    rw [hT2.out]
    go_simp
    rw [IntWalk.i64_in ((f : Int) - 1) ⟨by omega, by omega⟩]
    split <;> omega
  simp only [Act.put, List.setIfInBounds_toArray, List.set_cons_zero, List.set_cons_succ]
  refine mt_take 6 _ ?_ rfl rfl (some 4) rfl (fun w' hw' => ?hv6) ?_
  case hv6 =>
    go_simp
    with_reducible rfl
  simp only [Act.put, List.setIfInBounds_toArray, List.set_cons_zero, List.set_cons_succ]
  refine mt_done ?_
  go_wp2_with fail
  go_ret
  exact ⟨ret_int (by rw [HT.out]), bnext hb1 hBB⟩
/-- The colours that are told. -/
def colL (n k : Nat) (l : List Nat) : List Nat := l.map (tldC n k)
theorem kS_pos0 : ∀ n, n < 9 → ∀ k, k < 9 → 1 ≤ k → ∀ s, s < 2 ^ n → pop s = k → 0 < s := by decide +kernel
theorem kS_gt (n k : Nat) (h1 : 1 ≤ k) (h2 : k ≤ 8) (h3 : n ≤ 8) : ∀ s ∈ kS n k, 0 < s := fun s hs => by
  have hk : pop s = k := by
    simp only [kS, isK, List.mem_filter, decide_eq_true_eq] at hs
    exact hs.2
  exact kS_pos0 n (by omega) k (by omega) h1 s (kS_lt n k h3 s hs).1 hk
theorem colL_len (n k : Nat) (l : List Nat) : (colL n k l).length = l.length := by simp [colL]
theorem col_map (n k : Nat) (l : List Nat) : (toI l).map (fun x => ((tldC n k x.toNat : Nat) : Int)) = toI (colL n k l) := by
  simp only [toI, colL, List.map_map]
  exact List.map_congr_left (fun s _ => rfl)
set_option maxHeartbeats 800000 in
theorem l1Least8 (a b : Int) (w : World) :
    Calls Tryd.prog 11 #[.int .i64 a, .int .i64 b] w fun e w' => e = .returned (.int .i64 (if a < b then a else b)) ∧ w = w' := by
  by_cases h : a < b
  · have H : Hid ((if a < b then a else b) = a) := Lib.hid (if_pos h)
    rw [H.out]
    go_enter Tryd.func11, Tryd.ntmps11
    go_wp2_with fail
    go_ret
    exact ⟨rfl, rfl⟩
  · have H : Hid ((if a < b then a else b) = b) := Lib.hid (if_neg h)
    rw [H.out]
    go_enter Tryd.func11, Tryd.ntmps11
    go_wp2_with fail
    go_ret
    exact ⟨rfl, rfl⟩
theorem shr_all : ∀ s : Nat, s < 256 → 0 < s → (∀ i, i < lsi s → ((s : Int) / 2 ^ i).tmod 2 = 0) ∧ ((s : Int) / 2 ^ lsi s).tmod 2 = 1 := by decide +kernel
theorem toI_snoc8 (l : List Nat) (x : Nat) : toI (l ++ [x]) = toI l ++ [(x : Int)] := by simp [toI]
end Go.Proofs.YtfhohmahckjpeaaDoor
