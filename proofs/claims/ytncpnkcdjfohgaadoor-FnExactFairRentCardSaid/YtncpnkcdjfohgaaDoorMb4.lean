import Derived.Test.YtncpnkcdjfohgaaDoorMb3
import Derived.Test.YtncpnkcdjfohgaaDoorMb
import Derived.Test.YtncpnkcdjfohgaaDoorPoint
import Derived.Test.YtncpnkcdjfohgaaDoorMd5
namespace Go.Proofs.YtncpnkcdjfohgaaDoor
open Go.RowKit
set_option maxRecDepth 4000
def zeroS : Array Value := #[.int .i64 0, .int .i64 0, .int .i64 0]
theorem zeroS_size : zeroS.size = 3 := rfl
theorem zeroS_one : zeroS.all (·.oneCell') = true := by simp [zeroS, Value.oneCell']
theorem blkSpot : Blk 75 3 := ⟨.inr ⟨_, _, Tryd.underlying75⟩, by kernel_rfl⟩
/-- A point as it lies in memory. -/
def spA (n i : Nat) : Array Value := #[.int .i64 ((n : Int) - (Pr.R i : Nat)), .int .i64 ((Pr.R i : Int) - (Pr.C i : Nat)), .int .i64 (Pr.C i : Nat)]
theorem spA_size (n i : Nat) : (spA n i).size = 3 := rfl
theorem spA_one (n i : Nat) : (spA n i).all (·.oneCell') = true := by simp [spA, Value.oneCell']
theorem run_alloc_spot (w : World) : (Instr.alloc 75 true (.tuple #[])).run Tryd.prog w = .ok (.pointer (some ⟨w.heap.size, 0, none⟩)) (w.alloc (.cells zeroS 75)) := by kernel_rfl
theorem run_build0_spot (w : World) : (Instr.build 75 #[]).run Tryd.prog w = .ok (.agg zeroS) w := by kernel_rfl
section
variable {ops : Array Oper} {rest : List Oper} {o : Oper} {a : Act} {w : World} {Q : Exit → Act → World → Prop}
theorem build0_spot (hgd : o.guard = none) (ho : o.op = .build 75 #[])
    (h : wpList Tryd.prog ops Q rest (a.put o.dst (.agg zeroS)) w) : wpList Tryd.prog ops Q (o :: rest) a w := by
  refine wpList_plain hgd fun K hK => ?_
  unfold Oper.wp
  simp [execOp, ho, run_build0_spot, Result.andThen]
  exact hK _ _ h
end
theorem results_two {ty ty' : TypeId} {n n' : Nat} (bk : Blk ty n) (bk' : Blk ty' n') {fn : Func} {p p' q : Tmp} (h : fn.results = #[.cell p ty, .cell p' ty', .tmp q]) (tmps : Array Value) (w : World) (g g' : Nat) (cs cs' : Array Value) (v : Value)
    (hp : tmps.getD p undef = .pointer (some ⟨g, 0, none⟩)) (hp' : tmps.getD p' undef = .pointer (some ⟨g', 0, none⟩)) (hq : tmps.getD q undef = v) (hg : w.heap[g]? = some (.cells cs ty (0, 0))) (hg' : w.heap[g']? = some (.cells cs' ty' (0, 0))) (hc : cs.size = n) (hc' : cs'.size = n') :
    (results fn tmps).run Tryd.prog w = .ok (.tuple #[.agg cs, .agg cs', v]) w := by
  have hp1 : tmps[p]?.getD undef = .pointer (some ⟨g, 0, none⟩) := by simpa using hp
  have hp2 : tmps[p']?.getD undef = .pointer (some ⟨g', 0, none⟩) := by simpa using hp'
  have hq' : tmps[q]?.getD undef = v := by simpa using hq
  simp [results, h, hp1, hp2, hq', asAddr, load_ok bk w g cs hg hc, load_ok bk' w g' cs' hg' hc']
set_option maxHeartbeats 1600000 in
theorem cutOf_side (n : Int) (i : Int) (ts : List (List Int)) (a : Option Addr) (cap : Nat) (w : World) (hn : ¬ (1 ≤ n ∧ n ≤ 8)) :
    Calls Tryd.prog 54 #[.int .i64 n, .slice a ts.length cap, .int .i64 i] w fun e w' => e = .returned (.tuple #[.agg zeroC, .agg zeroS, .bool false]) ∧ Below w.heap.size w w' := by
  have HN := Lib.hid hn
  clear hn
  go_enter Tryd.func54, Tryd.ntmps54
  go_wp2_with (first | (with_reducible refine alloc_blk zeroC run_alloc_cake rfl rfl ?_) | (with_reducible refine alloc_blk zeroS run_alloc_spot rfl rfl ?_))
  obtain ⟨w0, hw0⟩ : ∃ w0, w0 = (w.alloc (.cells zeroC 55)).alloc (.cells zeroS 75) := ⟨_, rfl⟩
  rw [← hw0]
  have hb0 : Below w.heap.size w w0 := by rw [hw0]; exact balloc (balloc (Below.refl _ _) _) _
  have hz0 : w0.heap.size = w.heap.size + 2 := by rw [hw0]; simp
  have hg0 : w0.heap[w.heap.size]? = some (.cells zeroC 55 (0, 0)) := by
    rw [hw0, Below.heap_alloc _ _ _ (by simp)]
    exact heap_alloc_new w _
  have hs0 : w0.heap[w.heap.size + 1]? = some (.cells zeroS 75 (0, 0)) := by
    rw [hw0]
    have e := heap_alloc_new (w.alloc (.cells zeroC 55)) (.cells zeroS 75)
    rwa [World.size_alloc] at e
  clear hw0
  refine (cakeOf_side n HN.out ts a cap _).mono ?_
  rintro e w1 ⟨rfl, hb1⟩
  have hB1 : Below w.heap.size w w1 := hb0.trans (hb1.mono (by omega))
  have hz1 : w.heap.size + 2 ≤ w1.heap.size := by have := hb1.size; omega
  have hg1 := (hb1.block w.heap.size (by omega)).trans hg0
  have hs1 := (hb1.block (w.heap.size + 1) (by omega)).trans hs0
  clear hb1 hg0 hs0
  go_wp2_with (first | (with_reducible refine alloc_blk zeroC run_alloc_cake rfl rfl ?_) | ((with_reducible refine store_blk blkCake rfl _ _ rfl w1.heap.size (zeroC) zeroC ?_ ?_ (heap_alloc_new _ _) zeroC_size (zeroC_size) (zeroC_one) w1.heap.size (Nat.le_refl _) ?_); exact rfl; exact rfl; intro w2 hg2 hb2 hk2 hz2; have hz2' : w2.heap.size = w1.heap.size + 1 := (by rw [hz2]; simp); have hg12 := (hk2 w.heap.size (by omega)).trans ((Below.heap_alloc w1 _ _ (by omega)).trans hg1); have hs12 := (hk2 (w.heap.size + 1) (by omega)).trans ((Below.heap_alloc w1 _ _ (by omega)).trans hs1); have hB2 : Below w.heap.size w w2 := (balloc hB1 _).trans (hb2.mono (by omega))) | (with_reducible refine build0_cake rfl rfl ?_) | (with_reducible refine build0_spot rfl rfl ?_) | ((with_reducible refine store_blk blkCake rfl _ _ rfl (w.heap.size) (zeroC) (zeroC) ?_ ?_ hg12 (zeroC_size) (zeroC_size) (zeroC_one) (w.heap.size) (Nat.le_refl _) ?_); exact rfl; exact rfl; intro w7 hg7 hb7 hk7 _; have hs78 := (hk7 (w.heap.size + 1) (by omega)).trans hs12) | ((with_reducible refine store_blk blkSpot rfl _ _ rfl (w.heap.size + 1) (zeroS) (zeroS) ?_ ?_ hs78 (zeroS_size) (zeroS_size) (zeroS_one) (w.heap.size + 1) (Nat.le_refl _) ?_); exact rfl; exact rfl; intro w8 hg8 hb8 hk8 _; have hg78 := (hk8 w.heap.size (by omega)).trans hg7; have hB8 := (hB2.trans hb7).trans (hb8.mono (by omega))))
  exact bodyPost_ret (results_two blkCake blkSpot rfl _ _ w.heap.size (w.heap.size + 1) _ _ _ rfl rfl rfl hg78 hg8 zeroC_size zeroS_size) rfl ⟨rfl, hB8⟩
set_option maxHeartbeats 1600000 in
theorem cutOf_bad (n : Nat) (i : Int) (ts : List (List Int)) (a : Option Addr) (cap : Nat) (w : World) (h1 : 1 ≤ n) (h2 : n ≤ 8) (h : RdSS w w.heap.size a ts) (hy : rowsB n 9 ts = false) :
    Calls Tryd.prog 54 #[.int .i64 n, .slice a ts.length cap, .int .i64 i] w fun e w' => e = .returned (.tuple #[.agg zeroC, .agg zeroS, .bool false]) ∧ Below w.heap.size w w' := by
  have HRD := Lib.hid h
  have HY := Lib.hid hy
  clear h hy
  go_enter Tryd.func54, Tryd.ntmps54
  go_wp2_with (first | (with_reducible refine alloc_blk zeroC run_alloc_cake rfl rfl ?_) | (with_reducible refine alloc_blk zeroS run_alloc_spot rfl rfl ?_))
  obtain ⟨w0, hw0⟩ : ∃ w0, w0 = (w.alloc (.cells zeroC 55)).alloc (.cells zeroS 75) := ⟨_, rfl⟩
  rw [← hw0]
  have hb0 : Below w.heap.size w w0 := by rw [hw0]; exact balloc (balloc (Below.refl _ _) _) _
  have hz0 : w0.heap.size = w.heap.size + 2 := by rw [hw0]; simp
  have hg0 : w0.heap[w.heap.size]? = some (.cells zeroC 55 (0, 0)) := by
    rw [hw0, Below.heap_alloc _ _ _ (by simp)]
    exact heap_alloc_new w _
  have hs0 : w0.heap[w.heap.size + 1]? = some (.cells zeroS 75 (0, 0)) := by
    rw [hw0]
    have e := heap_alloc_new (w.alloc (.cells zeroC 55)) (.cells zeroS 75)
    rwa [World.size_alloc] at e
  clear hw0
  refine (cakeOf_no n h1 h2 ts a cap _ (rdss_mono (rdss_later HRD.out hb0) hb0.size) HY.out).mono ?_
  rintro e w1 ⟨rfl, hb1⟩
  have hB1 : Below w.heap.size w w1 := hb0.trans (hb1.mono (by omega))
  have hz1 : w.heap.size + 2 ≤ w1.heap.size := by have := hb1.size; omega
  have hg1 := (hb1.block w.heap.size (by omega)).trans hg0
  have hs1 := (hb1.block (w.heap.size + 1) (by omega)).trans hs0
  clear hb1 hg0 hs0
  go_wp2_with (first | (with_reducible refine alloc_blk zeroC run_alloc_cake rfl rfl ?_) | ((with_reducible refine store_blk blkCake rfl _ _ rfl w1.heap.size (zeroC) zeroC ?_ ?_ (heap_alloc_new _ _) zeroC_size (zeroC_size) (zeroC_one) w1.heap.size (Nat.le_refl _) ?_); exact rfl; exact rfl; intro w2 hg2 hb2 hk2 hz2; have hz2' : w2.heap.size = w1.heap.size + 1 := (by rw [hz2]; simp); have hg12 := (hk2 w.heap.size (by omega)).trans ((Below.heap_alloc w1 _ _ (by omega)).trans hg1); have hs12 := (hk2 (w.heap.size + 1) (by omega)).trans ((Below.heap_alloc w1 _ _ (by omega)).trans hs1); have hB2 : Below w.heap.size w w2 := (balloc hB1 _).trans (hb2.mono (by omega))) | (with_reducible refine build0_cake rfl rfl ?_) | (with_reducible refine build0_spot rfl rfl ?_) | ((with_reducible refine store_blk blkCake rfl _ _ rfl (w.heap.size) (zeroC) (zeroC) ?_ ?_ hg12 (zeroC_size) (zeroC_size) (zeroC_one) (w.heap.size) (Nat.le_refl _) ?_); exact rfl; exact rfl; intro w7 hg7 hb7 hk7 _; have hs78 := (hk7 (w.heap.size + 1) (by omega)).trans hs12) | ((with_reducible refine store_blk blkSpot rfl _ _ rfl (w.heap.size + 1) (zeroS) (zeroS) ?_ ?_ hs78 (zeroS_size) (zeroS_size) (zeroS_one) (w.heap.size + 1) (Nat.le_refl _) ?_); exact rfl; exact rfl; intro w8 hg8 hb8 hk8 _; have hg78 := (hk8 w.heap.size (by omega)).trans hg7; have hB8 := (hB2.trans hb7).trans (hb8.mono (by omega))))
  exact bodyPost_ret (results_two blkCake blkSpot rfl _ _ w.heap.size (w.heap.size + 1) _ _ _ rfl rfl rfl hg78 hg8 zeroC_size zeroS_size) rfl ⟨rfl, hB8⟩
set_option maxHeartbeats 1600000 in
theorem cutOf_no (n : Nat) (h1 : 1 ≤ n) (h2 : n ≤ 8) (i : Int) (hi : ¬ (0 ≤ i ∧ i < (Pr.cnt n : Nat))) (ts : List (List Int)) (a : Option Addr) (cap : Nat) (w : World) (h : RdSS w w.heap.size a ts) (hy : rowsB n 9 ts = true) :
    Calls Tryd.prog 54 #[.int .i64 n, .slice a ts.length cap, .int .i64 i] w fun e w' => e = .returned (.tuple #[.agg zeroC, .agg zeroS, .bool false]) ∧ Below w.heap.size w w' := by
  have HRD := Lib.hid h
  have HY := Lib.hid hy
  have HI := Lib.hid hi
  clear h hy hi
  go_enter Tryd.func54, Tryd.ntmps54
  go_wp2_with (first | (with_reducible refine alloc_blk zeroC run_alloc_cake rfl rfl ?_) | (with_reducible refine alloc_blk zeroS run_alloc_spot rfl rfl ?_))
  obtain ⟨w0, hw0⟩ : ∃ w0, w0 = (w.alloc (.cells zeroC 55)).alloc (.cells zeroS 75) := ⟨_, rfl⟩
  rw [← hw0]
  have hb0 : Below w.heap.size w w0 := by rw [hw0]; exact balloc (balloc (Below.refl _ _) _) _
  have hz0 : w0.heap.size = w.heap.size + 2 := by rw [hw0]; simp
  have hg0 : w0.heap[w.heap.size]? = some (.cells zeroC 55 (0, 0)) := by
    rw [hw0, Below.heap_alloc _ _ _ (by simp)]
    exact heap_alloc_new w _
  have hs0 : w0.heap[w.heap.size + 1]? = some (.cells zeroS 75 (0, 0)) := by
    rw [hw0]
    have e := heap_alloc_new (w.alloc (.cells zeroC 55)) (.cells zeroS 75)
    rwa [World.size_alloc] at e
  clear hw0
  refine (cakeOf_yes n h1 h2 ts a cap _ (rdss_mono (rdss_later HRD.out hb0) hb0.size) HY.out).mono ?_
  rintro e w1 ⟨rfl, hb1⟩
  have hB1 : Below w.heap.size w w1 := hb0.trans (hb1.mono (by omega))
  have hz1 : w.heap.size + 2 ≤ w1.heap.size := by have := hb1.size; omega
  have hg1 := (hb1.block w.heap.size (by omega)).trans hg0
  have hs1 := (hb1.block (w.heap.size + 1) (by omega)).trans hs0
  clear hb1 hg0 hs0
  go_wp2_with (first | (with_reducible refine alloc_blk zeroC run_alloc_cake rfl rfl ?_) | ((with_reducible refine store_blk blkCake rfl _ _ rfl w1.heap.size (cakeA n ts) zeroC ?_ ?_ (heap_alloc_new _ _) zeroC_size (cakeA_size _ _) (cakeA_one _ _) w1.heap.size (Nat.le_refl _) ?_); exact rfl; exact rfl; intro w2 hg2 hb2 hk2 hz2; have hz2' : w2.heap.size = w1.heap.size + 1 := (by rw [hz2]; simp); have hg12 := (hk2 w.heap.size (by omega)).trans ((Below.heap_alloc w1 _ _ (by omega)).trans hg1); have hs12 := (hk2 (w.heap.size + 1) (by omega)).trans ((Below.heap_alloc w1 _ _ (by omega)).trans hs1); have hB2 : Below w.heap.size w w2 := (balloc hB1 _).trans (hb2.mono (by omega)); have hm2 := blk_cell hg2 0 _ (cakeF_zero n (tv ts))))
  refine (hasPoint_no n i h2 HI.out _).mono ?_
  rintro e w3 ⟨rfl, hb3⟩
  have hB3 := bnext hB2 hb3
  have hg13 := (hb3.block w.heap.size (by omega)).trans hg12
  have hs13 := (hb3.block (w.heap.size + 1) (by omega)).trans hs12
  clear hb3 hm2
  go_wp2_with (first | (with_reducible refine build0_cake rfl rfl ?_) | (with_reducible refine build0_spot rfl rfl ?_) | ((with_reducible refine store_blk blkCake rfl _ _ rfl (w.heap.size) (zeroC) (zeroC) ?_ ?_ hg13 (zeroC_size) (zeroC_size) (zeroC_one) (w.heap.size) (Nat.le_refl _) ?_); exact rfl; exact rfl; intro w7 hg7 hb7 hk7 _; have hs78 := (hk7 (w.heap.size + 1) (by omega)).trans hs13) | ((with_reducible refine store_blk blkSpot rfl _ _ rfl (w.heap.size + 1) (zeroS) (zeroS) ?_ ?_ hs78 (zeroS_size) (zeroS_size) (zeroS_one) (w.heap.size + 1) (Nat.le_refl _) ?_); exact rfl; exact rfl; intro w8 hg8 hb8 hk8 _; have hg78 := (hk8 w.heap.size (by omega)).trans hg7; have hB8 := (hB3.trans hb7).trans (hb8.mono (by omega))))
  exact bodyPost_ret (results_two blkCake blkSpot rfl _ _ w.heap.size (w.heap.size + 1) _ _ _ rfl rfl rfl hg78 hg8 zeroC_size zeroS_size) rfl ⟨rfl, hB8⟩
set_option maxHeartbeats 3200000 in
theorem cutOf_yes (n : Nat) (h1 : 1 ≤ n) (h2 : n ≤ 8) (i : Nat) (hi : i < Pr.cnt n) (ts : List (List Int)) (a : Option Addr) (cap : Nat) (w : World) (h : RdSS w w.heap.size a ts) (hy : rowsB n 9 ts = true) :
    Calls Tryd.prog 54 #[.int .i64 n, .slice a ts.length cap, .int .i64 i] w fun e w' => e = .returned (.tuple #[.agg (cakeA n ts), .agg (spA n i), .bool true]) ∧ Below w.heap.size w w' := by
  have hcn := (Pr.cnt_le n (by omega)).1
  have HRD := Lib.hid h
  have HY := Lib.hid hy
  clear h hy
  go_enter Tryd.func54, Tryd.ntmps54
  go_wp2_with (first | (with_reducible refine alloc_blk zeroC run_alloc_cake rfl rfl ?_) | (with_reducible refine alloc_blk zeroS run_alloc_spot rfl rfl ?_))
  obtain ⟨w0, hw0⟩ : ∃ w0, w0 = (w.alloc (.cells zeroC 55)).alloc (.cells zeroS 75) := ⟨_, rfl⟩
  rw [← hw0]
  have hb0 : Below w.heap.size w w0 := by rw [hw0]; exact balloc (balloc (Below.refl _ _) _) _
  have hz0 : w0.heap.size = w.heap.size + 2 := by rw [hw0]; simp
  have hg0 : w0.heap[w.heap.size]? = some (.cells zeroC 55 (0, 0)) := by
    rw [hw0, Below.heap_alloc _ _ _ (by simp)]
    exact heap_alloc_new w _
  have hs0 : w0.heap[w.heap.size + 1]? = some (.cells zeroS 75 (0, 0)) := by
    rw [hw0]
    have e := heap_alloc_new (w.alloc (.cells zeroC 55)) (.cells zeroS 75)
    rwa [World.size_alloc] at e
  clear hw0
  refine (cakeOf_yes n h1 h2 ts a cap _ (rdss_mono (rdss_later HRD.out hb0) hb0.size) HY.out).mono ?_
  rintro e w1 ⟨rfl, hb1⟩
  have hB1 : Below w.heap.size w w1 := hb0.trans (hb1.mono (by omega))
  have hz1 : w.heap.size + 2 ≤ w1.heap.size := by have := hb1.size; omega
  have hg1 := (hb1.block w.heap.size (by omega)).trans hg0
  have hs1 := (hb1.block (w.heap.size + 1) (by omega)).trans hs0
  clear hb1 hg0 hs0
  go_wp2_with (first | (with_reducible refine alloc_blk zeroC run_alloc_cake rfl rfl ?_) | ((with_reducible refine store_blk blkCake rfl _ _ rfl w1.heap.size (cakeA n ts) zeroC ?_ ?_ (heap_alloc_new _ _) zeroC_size (cakeA_size _ _) (cakeA_one _ _) w1.heap.size (Nat.le_refl _) ?_); exact rfl; exact rfl; intro w2 hg2 hb2 hk2 hz2; have hz2' : w2.heap.size = w1.heap.size + 1 := (by rw [hz2]; simp); have hg12 := (hk2 w.heap.size (by omega)).trans ((Below.heap_alloc w1 _ _ (by omega)).trans hg1); have hs12 := (hk2 (w.heap.size + 1) (by omega)).trans ((Below.heap_alloc w1 _ _ (by omega)).trans hs1); have hB2 : Below w.heap.size w w2 := (balloc hB1 _).trans (hb2.mono (by omega)); have hm2 := blk_cell hg2 0 _ (cakeF_zero n (tv ts))))
  refine (hasPoint_yes n i h2 hi _).mono ?_
  rintro e w3 ⟨rfl, hb3⟩
  have hB3 := bnext hB2 hb3
  have hg13 := (hb3.block w.heap.size (by omega)).trans hg12
  have hs13 := (hb3.block (w.heap.size + 1) (by omega)).trans hs12
  have hg23 := (hb3.block w1.heap.size (by omega)).trans hg2
  have hz3 := hb3.size
  clear hb3 hm2
  go_wp2_with fail
  refine wp_region_mix (fun w' => w'.heap[w1.heap.size]? = some (.cells (cakeA n ts) 55 (0, 0))) [4, 5, 6] [0, 1, 2, 3, 4, 5, 6, 7] (by kernel_rfl) (by kernel_rfl) (fun _ _ d _ _ h => by cases d <;> exact h) (by kernel_rfl) rfl hg23 ?_
  refine mix_take 0 _ (.agg (cakeA n ts)) rfl rfl rfl (some 28) rfl (fun w' hw' => exec_row _ _ rfl w1.heap.size rfl (cakeA n ts) (load_ok blkCake w' _ _ hw' (cakeA_size _ _))) ?_
  simp only [Act.put, List.setIfInBounds_toArray, List.set_cons_zero, List.set_cons_succ]
  refine mix_take 1 _ ?_ rfl rfl rfl (some 29) rfl (fun w' hw' => ?hv1) ?_
  case hv1 =>
    go_simp
    with_reducible rfl
  simp only [Act.put, List.setIfInBounds_toArray, List.set_cons_zero, List.set_cons_succ]
  refine mix_take 2 _ ?_ rfl rfl rfl (some 30) rfl (fun w' hw' => ?hv2) ?_
  case hv2 =>
    have s0 : w'.cell? ⟨w1.heap.size, 0, none⟩ = some (.int .i64 n) := blk_cell hw' 0 _ (cakeF_zero n (tv ts))
    go_simp
    with_reducible rfl
  simp only [Act.put, List.setIfInBounds_toArray, List.set_cons_zero, List.set_cons_succ]
  refine mix_take 3 _ ?_ rfl rfl rfl (some 31) rfl (fun w' hw' => ?hv3) ?_
  case hv3 =>
    go_simp
    with_reducible rfl
  simp only [Act.put, List.setIfInBounds_toArray, List.set_cons_zero, List.set_cons_succ]
  refine mix_call 4 _ rfl rfl rfl 77 #[.agg #[.int .i64 n], .int .i64 i] (some 32) rfl ?hr4 ?_
  case hr4 => go_simp
  refine (spotAt_any n i h1 h2 (by omega) _).mono ?_
  rintro e w5 ⟨rfl, hb5⟩
  have hb5' : Below w3.heap.size w3 w5 := ((Same.refl w3).drew w3.heap.size).trans hb5
  have hg15 := (hb5'.block w.heap.size (by omega)).trans hg13
  have hs15 := (hb5'.block (w.heap.size + 1) (by omega)).trans hs13
  have hg25 := (hb5'.block w1.heap.size (by omega)).trans hg23
  have hB5 := bnext hB3 hb5'
  clear hb5 hb5'
  refine ⟨_, rfl, hg25, ?_⟩
  simp only [Act.put, List.setIfInBounds_toArray, List.set_cons_zero, List.set_cons_succ]
  refine mix_store_blk blkCake 5 _ rfl rfl rfl _ _ rfl none rfl w.heap.size (cakeA n ts) zeroC rfl rfl hg15 zeroC_size (cakeA_size _ _) (cakeA_one _ _) w.heap.size (Nat.le_refl _) ?_
  intro w6 hg6 hb6 hk6 _
  have hg26 := (hk6 w1.heap.size (by omega)).trans hg25
  have hs6 := (hk6 (w.heap.size + 1) (by omega)).trans hs15
  refine ⟨hg26, ?_⟩
  simp only [Act.put]
  refine mix_store_blk blkSpot 6 _ rfl rfl rfl _ _ rfl none rfl (w.heap.size + 1) (spA n i) zeroS rfl rfl hs6 zeroS_size (spA_size _ _) (spA_one _ _) (w.heap.size + 1) (Nat.le_refl _) ?_
  intro w7 hg7 hb7 hk7 _
  have hg67 := (hk7 w.heap.size (by omega)).trans hg6
  have hB7 := (hB5.trans hb6).trans (hb7.mono (by omega))
  refine ⟨(hk7 w1.heap.size (by omega)).trans hg26, ?_⟩
  simp only [Act.put]
  refine mix_take 7 _ ?_ rfl rfl rfl (some 8) rfl (fun w' hw' => ?hv7) ?_
  case hv7 =>
    go_simp
    with_reducible rfl
  simp only [Act.put, List.setIfInBounds_toArray, List.set_cons_zero, List.set_cons_succ]
  refine mix_done ?_
  go_wp2_with fail
  exact bodyPost_ret (results_two blkCake blkSpot rfl _ _ w.heap.size (w.heap.size + 1) _ _ _ rfl rfl rfl hg67 hg7 (cakeA_size _ _) (spA_size _ _)) rfl ⟨rfl, hB7⟩
end Go.Proofs.YtncpnkcdjfohgaaDoor
