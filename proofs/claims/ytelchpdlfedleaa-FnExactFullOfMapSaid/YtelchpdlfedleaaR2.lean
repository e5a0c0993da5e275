import Derived.Test.YtelchpdlfedleaaR1
namespace Go.Proofs.Ytelchpdlfedleaa
open Go.RowKit
set_option maxRecDepth 4000
/-- Rooms with labels as the program keeps them: the labels, then the rooms. -/
def lrA (cs r : Array Value) : Array Value := cs ++ r
def lr0 : Array Value := lrA zeroA rms0
theorem lrA_size {cs r : Array Value} (hc : cs.size = 46) (hr : r.size = 3) : (lrA cs r).size = 49 := by simp [lrA, hc, hr]
theorem lrA_one {cs r : Array Value} (hc : cs.all (·.oneCell') = true) (hr : r.all (·.oneCell') = true) : (lrA cs r).all (·.oneCell') = true := by
  rw [lrA, Array.all_append, hc, hr]; rfl
theorem lr0_size : lr0.size = 49 := lrA_size zeroA_size rfl
theorem lr0_one : lr0.all (·.oneCell') = true := lrA_one zeroA_one rms0_one
theorem blkLb : Blk 110 46 := ⟨.inl ⟨_, Try.underlying110⟩, by kernel_rfl⟩
theorem blkLR : Blk 117 49 := ⟨.inl ⟨_, Try.underlying117⟩, by kernel_rfl⟩
theorem run_alloc_lb (w : World) : (Instr.alloc 110 true (.tuple #[])).run Try.prog w = .ok (.pointer (some ⟨w.heap.size, 0, none⟩)) (w.alloc (.cells zeroA 110)) := by kernel_rfl
theorem run_alloc_lr (w : World) : (Instr.alloc 117 true (.tuple #[])).run Try.prog w = .ok (.pointer (some ⟨w.heap.size, 0, none⟩)) (w.alloc (.cells lr0 117)) := by kernel_rfl
theorem run_build0_lr (w : World) : (Instr.build 117 #[]).run Try.prog w = .ok (.agg lr0) w := by kernel_rfl
theorem built_lr (cs r : Array Value) (hc : cs.size = 46) (hr : r.size = 3) : Try.prog.built 117 [(0, .agg cs), (1, .agg r)] = some (lrA cs r) := by
  have e : cs = Array.ofFn (fun i : Fin 46 => cs.getD i undef) := by
    apply Array.ext
    · simp [hc]
    · intro i h1 h2; simp [Array.getD, h1]
  have e2 : r = Array.ofFn (fun i : Fin 3 => r.getD i undef) := by
    apply Array.ext
    · simp [hr]
    · intro i h1 h2; simp [Array.getD, h1]
  have H : ∀ (c : Fin 46 → Value) (d : Fin 3 → Value), Try.prog.built 117 [(0, .agg (Array.ofFn c)), (1, .agg (Array.ofFn d))] = some (lrA (Array.ofFn c) (Array.ofFn d)) := by
    intro c d
    kernel_rfl
  rw [e, e2]
  exact H _ _
section
variable {ops : Array Oper} {rest : List Oper} {o : Oper} {a : Act} {w : World} {Q : Exit → Act → World → Prop}
theorem build_lr (hgd : o.guard = none) (x y : Operand) (ho : o.op = .build 117 #[(0, x), (1, y)]) (cs r : Array Value) (hc : cs.size = 46) (hr : r.size = 3) (hx : a.eval x = .agg cs) (hy : a.eval y = .agg r)
    (h : wpList Try.prog ops Q rest (a.put o.dst (.agg (lrA cs r))) w) : wpList Try.prog ops Q (o :: rest) a w := by
  refine wpList_plain hgd fun K hK => ?_
  unfold Oper.wp
  have hb := run_build (P := Try.prog) w 117 #[(0, .agg cs), (1, .agg r)] _ (built_lr cs r hc hr)
  simp [execOp, ho, hx, hy, hb, Result.andThen]
  exact hK _ _ h
theorem build0_lr (hgd : o.guard = none) (ho : o.op = .build 117 #[])
    (h : wpList Try.prog ops Q rest (a.put o.dst (.agg lr0)) w) : wpList Try.prog ops Q (o :: rest) a w := by
  refine wpList_plain hgd fun K hK => ?_
  unfold Oper.wp
  simp [execOp, ho, run_build0_lr, Result.andThen]
  exact hK _ _ h
end
theorem lr_rooms {cs r : Array Value} (hc : cs.size = 46) (j : Nat) : (lrA cs r)[46 + j]? = r[j]? := by
  rw [lrA, Array.getElem?_append_right (by omega), hc, Nat.add_sub_cancel_left]
theorem lr_lab {cs r : Array Value} (hc : cs.size = 46) (j : Nat) (hj : j < 46) : (lrA cs r)[j]? = cs[j]? := by
  rw [lrA, Array.getElem?_append_left (by omega)]
/-- The function that is asked for doors, with the block that it reads. -/
def capD (g : Nat) : Array Value := #[.pointer (some ⟨g, 0, none⟩)]
theorem door_cf (args : Array Value) (w : World) : (callFunc 126 args).run Try.prog w = .ok (.enter 126 args) w := by kernel_rfl
set_option maxHeartbeats 800000 in
theorem isDoor_any (n : Nat) (xs : List Int) (i j g : Nat) (hL : labB n xs = true) (hi : i < xs.length) (hj : j < xs.length) (w : World) (hg : w.heap[g]? = some (.cells (labL n xs).toArray 110 (0, 0))) (hgl : g < w.heap.size) :
    Calls Try.prog 126 #[.agg #[.int .i64 i, .int .i64 j], .pointer (some ⟨g, 0, none⟩)] w fun e w' => e = .returned (.bool (drB xs ((i : Int), (j : Int)))) ∧ Below w.heap.size w w' := by
  obtain ⟨h1, h2, hl, hA⟩ := labB_yes hL
  have hcn := (Pr.cnt_le n (by omega)).1
  have ci' := lab_cell hg i hi
  have cj' := lab_cell hg j hj
  have bi := allB_at2 hA i hi
  have bj := allB_at2 hA j hj
  have HD : Hid (drB xs ((i : Int), (j : Int)) = (xs.getD i 0 + xs.getD j 0 == 1)) := Lib.hid (by simp [drB, doorB])
  have hw : w.heap.size < (w.alloc (.cells #[.int .i64 i, .int .i64 j] 121)).heap.size := by simp
  have hgw : g < (w.alloc (.cells #[.int .i64 i, .int .i64 j] 121)).heap.size := by simp; omega
  have ci1 : (w.alloc (.cells #[.int .i64 i, .int .i64 j] 121)).cell? ⟨g, 1 + i, none⟩ = some (.int .i64 (xs.getD i 0)) := (World.cell?_alloc_past _ _ _ hgl).trans ci'
  have cj1 : (w.alloc (.cells #[.int .i64 i, .int .i64 j] 121)).cell? ⟨g, 1 + j, none⟩ = some (.int .i64 (xs.getD j 0)) := (World.cell?_alloc_past _ _ _ hgl).trans cj'
  have p0 : (w.alloc (.cells #[.int .i64 i, .int .i64 j] 121)).cell? ⟨w.heap.size, 0, none⟩ = some (.int .i64 i) := by go_cell
  have p1 : (w.alloc (.cells #[.int .i64 i, .int .i64 j] 121)).cell? ⟨w.heap.size, 1, none⟩ = some (.int .i64 j) := by go_cell
  have hi45 : (i : Int) < 45 := by omega
  have hj45 : (j : Int) < 45 := by omega
  have hB := balloc (Below.refl w.heap.size w) (.cells #[.int .i64 i, .int .i64 j] 121)
  clear ci' cj' hg hL hA hl
  generalize xs.getD i 0 = x at ci1 bi HD
  generalize xs.getD j 0 = y at cj1 bj HD
  go_enter Try.func126, Try.ntmps126
  go_wp2_with fail
  generalize w.alloc (.cells #[.int .i64 i, .int .i64 j] 121) = w0 at ci1 cj1 p0 p1 hB hw hgw ⊢
  go_quiet (fail)
  go_wp2_with fail
  go_ret
  exact ⟨by rw [HD.out]; rfl, Below.trans hB (Below.mono (by exact below_drewN (Below.refl _ _) _) (Nat.le_refl w.heap.size))⟩
theorem fgr_ci {n : Nat} {xs : List Int} (hL : labB n xs = true) : Fgr 126 (drB xs) (ci n) (bps n (3 * n)) (Pr.cnt n) := by
  obtain ⟨h1, h2, -⟩ := labB_yes hL
  exact ⟨door_cf, tri_ci h2, fig_ci hL, ci_bd n h2, by rw [bps_len]; omega⟩
theorem asks_ci {n : Nat} {xs : List Int} (hL : labB n xs = true) {w : World} {g : Nat} (hg : w.heap[g]? = some (.cells (labL n xs).toArray 110 (0, 0))) (hgl : g < w.heap.size) (ps : List (Int × Int)) (hp : Pts xs.length ps) :
    Asks 126 #[] (capD g) (drB xs) w ps := by
  intro W hW k hk
  obtain ⟨i, j, e, hi, hj⟩ := hp k hk
  rw [e]
  have := isDoor_any n xs i j g hL hi hj W ((hW.block g hgl).trans hg) (Nat.lt_of_lt_of_le hgl hW.size)
  simpa [capD] using this
theorem pts_ci {n : Nat} {xs : List Int} (hL : labB n xs = true) {k : Nat} (hk : k < (ci n).length) : Pts xs.length (cpr (ci n) k) := by
  obtain ⟨h1, h2, hl, -⟩ := labB_yes hL
  obtain ⟨a, b, c, e, u1, u2, u3⟩ := tri_ci h2 k hk
  rw [cpr_of e]
  intro t ht
  match t, ht with
  | 0, _ => exact ⟨a, b, rfl, by omega, by omega⟩
  | 1, _ => exact ⟨a, c, rfl, by omega, by omega⟩
  | 2, _ => exact ⟨b, c, rfl, by omega, by omega⟩
  | t + 3, ht => exact absurd ht (by simp)
/-- Rooms with labels as they are in a world. -/
def RoomsT (w : World) (base n : Nat) (xs : List Int) (R : Array Value) : Prop :=
  ∃ g r, R = lrA (labL n xs).toArray r ∧ RmW 126 #[] (capD g) (drB xs) (ci n) (bps n (3 * n)) base r w ∧ w.heap[g]? = some (.cells (labL n xs).toArray 110 (0, 0)) ∧ g < w.heap.size
theorem RoomsT.later {w w' : World} {base n : Nat} {xs : List Int} {R : Array Value} (h : RoomsT w base n xs R) (hb : Below w.heap.size w w') : RoomsT w' base n xs R := by
  obtain ⟨g, r, e, h, k1, k2⟩ := h
  exact ⟨g, r, e, h.later hb, (hb.block g k2).trans k1, Nat.lt_of_lt_of_le k2 hb.size⟩
theorem rmw_ci {n : Nat} {xs : List Int} (hL : labB n xs = true) {w : World} {g base : Nat} {r : Array Value} (hg : w.heap[g]? = some (.cells (labL n xs).toArray 110 (0, 0))) (hgl : g < w.heap.size) (hv : RmsV w base (ci n) (bps n (3 * n)) (.func (.func 126) #[] (capD g)) r) :
    RmW 126 #[] (capD g) (drB xs) (ci n) (bps n (3 * n)) base r w := by
  obtain ⟨h1, h2, hl, -⟩ := labB_yes hL
  refine ⟨hv, fun k hk => asks_ci hL hg hgl _ (pts_ci hL hk), asks_ci hL hg hgl _ ?_⟩
  exact bps_pts n xs hL
theorem labR_at (n : Nat) (xs : List Int) (k : Nat) (hk : k < xs.length) : (labL n xs).toArray[1 + k]? = some (.int .i64 (xs.getD k 0)) := by
  rw [List.getElem?_toArray, show 1 + k = k + 1 by omega]
  simp [labL, List.getElem?_append, hk, List.getD]
/-- The cells of labelled rooms. -/
theorem rt_row {w : World} {base n : Nat} {xs : List Int} {R : Array Value} (hL : labB n xs = true) (h : RoomsT w base n xs R) : ∃ g r, RmW 126 #[] (capD g) (drB xs) (ci n) (bps n (3 * n)) base r w ∧ r.size = 3 ∧ r.all (·.oneCell') = true ∧ R.size = 49 ∧ R.all (·.oneCell') = true ∧
    R[0]? = some (.int .i64 n) ∧ (∀ k, k < xs.length → R[1 + k]? = some (.int .i64 (xs.getD k 0))) ∧ (∀ j, j < 3 → R[46 + j]? = r[j]?) ∧ w.heap[g]? = some (.cells (labL n xs).toArray 110 (0, 0)) ∧ g < w.heap.size := by
  obtain ⟨g, r, rfl, hr, hgb⟩ := h
  obtain ⟨h1, h2, hl, -⟩ := labB_yes hL
  have hcn := (Pr.cnt_le n (by omega)).1
  have hs := labL_size n xs (by omega)
  obtain ⟨hz, ho⟩ := rm_size hr
  refine ⟨g, r, hr, hz, ho, lrA_size hs hz, lrA_one (labL_one n xs) ho, ?_, fun k hk => ?_, fun j _ => lr_rooms hs j, hgb⟩
  · rw [lr_lab hs 0 (by omega)]; simp [labL]
  · rw [lr_lab hs _ (by omega)]; exact labR_at n xs k hk
set_option maxHeartbeats 1600000 in
theorem roomsOf_no (n : Int) (xs : List Int) (a : Option Addr) (b len cap : Nat) (w : World) (hn : xs.length = len) (hsm : len ≤ 1048576) (h : Rd w a b 0 xs) (hb0 : len = 0 ∨ b < w.heap.size) (hL : labB n xs = false) :
    Calls Try.prog 96 #[.int .i64 n, .slice a len cap] w fun e w' => e = .returned (.tuple #[.agg lr0, .bool false]) ∧ Below w.heap.size w w' := by
  have hB0 := balloc (Below.refl w.heap.size w) (.cells lr0 117)
  have hlab := labelledOf_any n xs a b len cap (w.alloc (.cells lr0 117)) hn hsm (h.later hn hb0 hB0) (lt_later hb0 hB0)
  rw [hL] at hlab
  simp only [Bool.false_eq_true, if_false] at hlab
  have HL := Lib.hid hlab
  have hr0 := heap_alloc_new w (.cells lr0 117)
  have hs0 : (w.alloc (.cells lr0 117)).heap.size = w.heap.size + 1 := by simp
  clear hL hn h hb0 hlab
  go_enter Try.func96, Try.ntmps96
  go_wp2_with (with_reducible refine alloc_blk lr0 run_alloc_lr rfl rfl ?_)
  generalize w.alloc (.cells lr0 117) = w0 at hB0 HL hr0 hs0 ⊢
  refine HL.out.mono ?_
  rintro e w1 ⟨rfl, hb1⟩
  have hr1 := (hb1.block w.heap.size (by omega)).trans hr0
  have hB1 := bnext hB0 hb1
  have hlt1 : w.heap.size < w1.heap.size := by have := hb1.size; omega
  have hr2 := (Below.heap_alloc w1 (.cells zeroA 110) w.heap.size hlt1).trans hr1
  clear hb1 hB0 hr0 hr1
  go_wp2_with (first
    | (with_reducible refine alloc_blk zeroA run_alloc_lb rfl rfl ?_)
    | ((with_reducible refine store_blk blkLb rfl _ _ rfl w1.heap.size zeroA zeroA ?_ ?_ ?_ zeroA_size zeroA_size zeroA_one w1.heap.size (Nat.le_refl _) ?_); exact rfl; exact rfl; exact heap_alloc_new _ _; intro w3 hg3 hb3 hk3 hs3; have hB3 := hB1.trans (Below.mono ((balloc (Below.refl w1.heap.size w1) (.cells zeroA 110)).trans hb3) hB1.size); have hr3 := (hk3 w.heap.size (by omega)).trans hr2)
    | (with_reducible refine build0_lr rfl rfl ?_)
    | ((with_reducible refine store_blk blkLR rfl _ _ rfl w.heap.size lr0 lr0 ?_ ?_ hr3 lr0_size lr0_size lr0_one w.heap.size (Nat.le_refl _) ?_); exact rfl; exact rfl; intro w4 hg4 hb4 hk4 hs4; have hB4 := hB3.trans hb4))
  exact bodyPost_ret (results_blk blkLR rfl _ _ w.heap.size _ _ rfl rfl hg4 lr0_size) rfl ⟨rfl, hB4⟩
end Go.Proofs.Ytelchpdlfedleaa
