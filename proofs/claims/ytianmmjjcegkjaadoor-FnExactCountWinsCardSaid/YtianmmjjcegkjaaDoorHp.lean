import Derived.Test.YtianmmjjcegkjaaDoorHo
import Derived.Test.YtianmmjjcegkjaaDoorHv
import Derived.Test.YtianmmjjcegkjaaDoorHe
import Derived.Test.YtianmmjjcegkjaaDoorZa
namespace Go.Proofs.YtianmmjjcegkjaaDoor
open Go.RowKit
set_option maxRecDepth 4000
/-- What the closures of a search remember. -/
def HexM (w : World) (bb pb n m : Nat) (xs : List Int) (p : Int) : Prop := w.heap[bb]? = some (.cells (hbL n m xs).toArray 36 (0, 0)) ∧ w.heap[pb]? = some (.cells #[.int .i64 p] 3 (0, 0))
theorem hexM_now {w w' : World} {bb pb n m : Nat} {xs : List Int} {p : Int} {B : Nat} (h : HexM w bb pb n m xs p) (h1 : bb < B) (h2 : pb < B) (hb : Below B w w') : HexM w' bb pb n m xs p :=
  ⟨(hb.block _ h1).trans h.1, (hb.block _ h2).trans h.2⟩
def schA (n m L : Int) (lf op ow : Value) : Array Value := #[.int .i64 n, .int .i64 m, .int .i64 L, lf, op, ow]
def sch0 : Array Value := schA 0 0 0 .nilFunc .nilFunc .nilFunc
def lnF (f n m : Nat) : Value := .func (.func f) #[.agg #[.int .i64 n, .int .i64 m]] #[]
def opF (f bb pb : Nat) : Value := .func (.func f) #[] #[.pointer (some ⟨bb, 0, none⟩), .pointer (some ⟨pb, 0, none⟩)]
theorem schA_one (n m L : Int) (f i j g1 g2 g3 g4 : Nat) (N M : Nat) : (schA n m L (lnF f N M) (opF i g1 g2) (opF j g3 g4)).all (·.oneCell') = true := by simp [schA, lnF, opF, Value.oneCell']
theorem blkSch : Blk 43 6 := ⟨.inl ⟨_, Tryd.underlying43⟩, by kernel_rfl⟩
theorem run_alloc_sch (w : World) : (Instr.alloc 43 true (.tuple #[])).run Tryd.prog w = .ok (.pointer (some ⟨w.heap.size, 0, none⟩)) (w.alloc (.cells sch0 43)) := by kernel_rfl
theorem sch0_one : sch0.all (·.oneCell') = true := by decide +kernel
theorem szFn : (Tryd.prog.info? 41).map (·.size) = some 1 := by kernel_rfl
theorem szI : (Tryd.prog.info? 3).map (·.size) = some 1 := by kernel_rfl
set_option maxHeartbeats 800000 in
theorem isOpen_any (n m j bb pb : Nat) (xs : List Int) (p : Int) (hp : 1 ≤ p ∧ p ≤ 2) (w : World) (hM : HexM w bb pb n m xs p) (hj : j < xs.length) (hl : xs.length ≤ 30) :
    Calls Tryd.prog 21 #[.int .i64 j, .pointer (some ⟨bb, 0, none⟩), .pointer (some ⟨pb, 0, none⟩)] w fun e w' => e = .returned (.bool (xs.getD j 0 != 3 - p)) ∧ Below w.heap.size w w' := by
  have q1 := blk_cell hM.1 (2 + j) _ (hb_at n m xs j hj)
  have q2 := blk_cell hM.2 0 (.int .i64 p) rfl
  have HR := Lib.hid (fun w => rival_any p (by omega) hp.2 w)
  have htv : tv p = 3 - p := by unfold tv; rw [if_neg (by omega)]
  rw [htv] at HR
  have hj30 : j < 30 := by omega
  have hji : (j : Int) < 30 := by omega
  clear hM hj hl hp htv
  generalize xs.getD j 0 = x at q1 ⊢
  go_enter Tryd.func21, Tryd.ntmps21
  go_wp2_with fail
  go_quiet ((go_at_call 22; exact Calls.quiet_of_same (flip (HR.out _))))
  go_wp2_with fail
  go_ret
  exact ⟨rfl, (Same.refl _).drewN _ _⟩
set_option maxHeartbeats 800000 in
theorem isOwn_any (n m j bb pb : Nat) (xs : List Int) (p : Int) (w : World) (hM : HexM w bb pb n m xs p) (hj : j < xs.length) (hl : xs.length ≤ 30) :
    Calls Tryd.prog 23 #[.int .i64 j, .pointer (some ⟨bb, 0, none⟩), .pointer (some ⟨pb, 0, none⟩)] w fun e w' => e = .returned (.bool (xs.getD j 0 == p)) ∧ Below w.heap.size w w' := by
  have q1 := blk_cell hM.1 (2 + j) _ (hb_at n m xs j hj)
  have q2 := blk_cell hM.2 0 (.int .i64 p) rfl
  have hj30 : j < 30 := by omega
  have hji : (j : Int) < 30 := by omega
  clear hM hj hl
  generalize xs.getD j 0 = x at q1 ⊢
  go_enter Tryd.func23, Tryd.ntmps23
  go_wp2_with fail
  go_quiet (fail)
  go_wp2_with fail
  go_ret
  exact ⟨rfl, (Same.refl _).drewN _ _⟩
set_option maxHeartbeats 1600000 in
theorem searchFor1_any (n m : Nat) (xs : List Int) (w : World) (hx : xs.length ≤ 30) (hn : 1 ≤ n ∧ n ≤ 30) (hm : 1 ≤ m ∧ m ≤ 30) :
    Calls Tryd.prog 18 #[.agg (hbL n m xs).toArray, .int .i64 1] w fun e w' => ∃ bb pb, e = .returned (.agg (schA n m ((n - 1 : Nat) : Int) (lnF 20 n m) (opF 21 bb pb) (opF 23 bb pb))) ∧ HexM w' bb pb n m xs 1 ∧ bb < w'.heap.size ∧ pb < w'.heap.size ∧ Below w.heap.size w w' := by
  have hsz : (hbL n m xs).toArray.size = 32 := hbL_size n m xs (by omega)
  have hB1 : Below w.heap.size w (((w.alloc (.cells (hbL n m xs).toArray 36)).alloc (.cells #[.int .i64 1] 3)).alloc (.cells sch0 43)) := balloc (balloc (balloc (Below.refl w.heap.size w) _) _) _
  have hg1 : (((w.alloc (.cells (hbL n m xs).toArray 36)).alloc (.cells #[.int .i64 1] 3)).alloc (.cells sch0 43)).heap[w.heap.size]? = some (.cells (hbL n m xs).toArray 36 (0, 0)) := (Below.heap_alloc _ _ _ (by simp; omega)).trans ((Below.heap_alloc _ _ _ (by simp)).trans (heap_alloc_new w _))
  have hr1 : (((w.alloc (.cells (hbL n m xs).toArray 36)).alloc (.cells #[.int .i64 1] 3)).alloc (.cells sch0 43)).heap[w.heap.size + 1]? = some (.cells #[.int .i64 1] 3 (0, 0)) := by
    have e := heap_alloc_new (w.alloc (.cells (hbL n m xs).toArray 36)) (.cells #[.int .i64 1] 3)
    rw [World.size_alloc] at e
    exact (Below.heap_alloc _ _ _ (by simp)).trans e
  have hv1 : (((w.alloc (.cells (hbL n m xs).toArray 36)).alloc (.cells #[.int .i64 1] 3)).alloc (.cells sch0 43)).heap[w.heap.size + 2]? = some (.cells sch0 43 (0, 0)) := by
    have e := heap_alloc_new ((w.alloc (.cells (hbL n m xs).toArray 36)).alloc (.cells #[.int .i64 1] 3)) (.cells sch0 43)
    rwa [World.size_alloc, World.size_alloc] at e
  have hs1 : (((w.alloc (.cells (hbL n m xs).toArray 36)).alloc (.cells #[.int .i64 1] 3)).alloc (.cells sch0 43)).heap.size = w.heap.size + 3 := by simp
  have q0 := blk_cell hg1 0 (.int .i64 n) rfl
  have q1 := blk_cell hg1 1 (.int .i64 m) rfl
  have hMf : ∀ (fn : Fn) (first cap : Array Value) (w : World), (Instr.makeFunc fn first cap).run Tryd.prog w = .ok (.func fn first cap) w := fun _ _ _ _ => rfl
  have e1 : IntKind.i64.wrap ((n : Int) - 1) = ((n - 1 : Nat) : Int) := by rw [IntWalk.i64_in _ ⟨by omega, by omega⟩]; omega
  have e2 : wrap64 ((n : Int) - 1) = ((n - 1 : Nat) : Int) := by rw [IntWalk.wrap64_in _ ⟨by omega, by omega⟩]; omega
  have e3 : IntKind.i64.wrap ((m : Int) - 1) = ((m - 1 : Nat) : Int) := by rw [IntWalk.i64_in _ ⟨by omega, by omega⟩]; omega
  have e4 : wrap64 ((m : Int) - 1) = ((m - 1 : Nat) : Int) := by rw [IntWalk.wrap64_in _ ⟨by omega, by omega⟩]; omega
  go_enter Tryd.func18, Tryd.ntmps18
  go_wp2_with (first
    | ((with_reducible refine alloc_blk sch0 run_alloc_sch rfl rfl ?_); (try simp only [World.size_alloc, Act.put, List.setIfInBounds_toArray, List.set_cons_zero, List.set_cons_succ]); have hz2 : (w1.alloc (.cells sch0 43)).heap.size = w.heap.size + 4 := (by rw [World.size_alloc]; omega); have hB2 := balloc hB1 (.cells sch0 43); have hg2 := (Below.heap_alloc w1 (.cells sch0 43) w.heap.size (by omega)).trans hg1; have hr2 := (Below.heap_alloc w1 (.cells sch0 43) (w.heap.size + 1) (by omega)).trans hr1; have hv2 := (Below.heap_alloc w1 (.cells sch0 43) (w.heap.size + 2) (by omega)).trans hv1; have hn2 := heap_alloc_new w1 (.cells sch0 43); rw [hs1] at hn2 ⊢; generalize w1.alloc (.cells sch0 43) = w2 at hB2 hg2 hr2 hv2 hn2 hz2 ⊢)
    | ((with_reducible refine alloc_blk sch0 run_alloc_sch rfl rfl ?_); (try simp only [World.size_alloc, Act.put, List.setIfInBounds_toArray, List.set_cons_zero, List.set_cons_succ]); generalize hW : (((w.alloc (.cells (hbL n m xs).toArray 36)).alloc (.cells #[.int .i64 1] 3)).alloc (.cells sch0 43)) = w1 at hB1 hg1 hr1 hv1 hs1 q0 q1 ⊢)
    | ((with_reducible refine store_blk blkSch rfl _ _ rfl (w.heap.size + 3) (schA n m ((n - 1 : Nat) : Int) (lnF 20 n m) (opF 21 w.heap.size (w.heap.size + 1)) (opF 23 w.heap.size (w.heap.size + 1))) sch0 ?_ ?_ hn2 rfl rfl (schA_one _ _ _ _ _ _ _ _ _ _ _ _) w.heap.size (by omega) ?_); exact rfl; exact rfl; intro w3 hg3 hb3 hk3 hs3; have hgb := (hk3 w.heap.size (by omega)).trans hg2; have hgr := (hk3 (w.heap.size + 1) (by omega)).trans hr2; have hgv := (hk3 (w.heap.size + 2) (by omega)).trans hv2; have q5 := blk_cell hgr 0 (.int .i64 1) rfl; have q6 := blk_cell hgb 0 (.int .i64 n) rfl; have q7 := blk_cell hgb 1 (.int .i64 m) rfl)
    | ((with_reducible refine load_blk blkSch ?_ _ rfl (w.heap.size + 3) ?_ (schA n m ((n - 1 : Nat) : Int) (lnF 20 n m) (opF 21 w.heap.size (w.heap.size + 1)) (opF 23 w.heap.size (w.heap.size + 1))) hg3 rfl ?_); exact rfl; exact rfl; simp only [Act.put, List.setIfInBounds_toArray, List.set_cons_zero, List.set_cons_succ])
    | ((with_reducible refine store_blk blkSch rfl _ _ rfl (w.heap.size + 2) (schA n m ((n - 1 : Nat) : Int) (lnF 20 n m) (opF 21 w.heap.size (w.heap.size + 1)) (opF 23 w.heap.size (w.heap.size + 1))) sch0 ?_ ?_ hgv rfl rfl (schA_one _ _ _ _ _ _ _ _ _ _ _ _) w.heap.size (by omega) ?_); exact rfl; exact rfl; intro w6 hg6 hb6 hk6 hs6))
  exact bodyPost_ret (results_blk1 blkSch rfl _ _ (w.heap.size + 2) _ rfl hg6 rfl) rfl ⟨_, _, rfl, ⟨(hk6 _ (by omega)).trans hgb, (hk6 _ (by omega)).trans hgr⟩, by omega, by omega, (hB2.trans hb3).trans hb6⟩
set_option maxHeartbeats 1600000 in
theorem searchFor2_any (n m : Nat) (xs : List Int) (w : World) (hx : xs.length ≤ 30) (hn : 1 ≤ n ∧ n ≤ 30) (hm : 1 ≤ m ∧ m ≤ 30) :
    Calls Tryd.prog 18 #[.agg (hbL n m xs).toArray, .int .i64 2] w fun e w' => ∃ bb pb, e = .returned (.agg (schA n m ((m - 1 : Nat) : Int) (lnF 24 n m) (opF 21 bb pb) (opF 23 bb pb))) ∧ HexM w' bb pb n m xs 2 ∧ bb < w'.heap.size ∧ pb < w'.heap.size ∧ Below w.heap.size w w' := by
  have hsz : (hbL n m xs).toArray.size = 32 := hbL_size n m xs (by omega)
  have hB1 : Below w.heap.size w (((w.alloc (.cells (hbL n m xs).toArray 36)).alloc (.cells #[.int .i64 2] 3)).alloc (.cells sch0 43)) := balloc (balloc (balloc (Below.refl w.heap.size w) _) _) _
  have hg1 : (((w.alloc (.cells (hbL n m xs).toArray 36)).alloc (.cells #[.int .i64 2] 3)).alloc (.cells sch0 43)).heap[w.heap.size]? = some (.cells (hbL n m xs).toArray 36 (0, 0)) := (Below.heap_alloc _ _ _ (by simp; omega)).trans ((Below.heap_alloc _ _ _ (by simp)).trans (heap_alloc_new w _))
  have hr1 : (((w.alloc (.cells (hbL n m xs).toArray 36)).alloc (.cells #[.int .i64 2] 3)).alloc (.cells sch0 43)).heap[w.heap.size + 1]? = some (.cells #[.int .i64 2] 3 (0, 0)) := by
    have e := heap_alloc_new (w.alloc (.cells (hbL n m xs).toArray 36)) (.cells #[.int .i64 2] 3)
    rw [World.size_alloc] at e
    exact (Below.heap_alloc _ _ _ (by simp)).trans e
  have hv1 : (((w.alloc (.cells (hbL n m xs).toArray 36)).alloc (.cells #[.int .i64 2] 3)).alloc (.cells sch0 43)).heap[w.heap.size + 2]? = some (.cells sch0 43 (0, 0)) := by
    have e := heap_alloc_new ((w.alloc (.cells (hbL n m xs).toArray 36)).alloc (.cells #[.int .i64 2] 3)) (.cells sch0 43)
    rwa [World.size_alloc, World.size_alloc] at e
  have hs1 : (((w.alloc (.cells (hbL n m xs).toArray 36)).alloc (.cells #[.int .i64 2] 3)).alloc (.cells sch0 43)).heap.size = w.heap.size + 3 := by simp
  have q0 := blk_cell hg1 0 (.int .i64 n) rfl
  have q1 := blk_cell hg1 1 (.int .i64 m) rfl
  have hMf : ∀ (fn : Fn) (first cap : Array Value) (w : World), (Instr.makeFunc fn first cap).run Tryd.prog w = .ok (.func fn first cap) w := fun _ _ _ _ => rfl
  have e1 : IntKind.i64.wrap ((n : Int) - 1) = ((n - 1 : Nat) : Int) := by rw [IntWalk.i64_in _ ⟨by omega, by omega⟩]; omega
  have e2 : wrap64 ((n : Int) - 1) = ((n - 1 : Nat) : Int) := by rw [IntWalk.wrap64_in _ ⟨by omega, by omega⟩]; omega
  have e3 : IntKind.i64.wrap ((m : Int) - 1) = ((m - 1 : Nat) : Int) := by rw [IntWalk.i64_in _ ⟨by omega, by omega⟩]; omega
  have e4 : wrap64 ((m : Int) - 1) = ((m - 1 : Nat) : Int) := by rw [IntWalk.wrap64_in _ ⟨by omega, by omega⟩]; omega
  go_enter Tryd.func18, Tryd.ntmps18
  go_wp2_with (first
    | ((with_reducible refine alloc_blk sch0 run_alloc_sch rfl rfl ?_); (try simp only [World.size_alloc, Act.put, List.setIfInBounds_toArray, List.set_cons_zero, List.set_cons_succ]); have hz2 : (w1.alloc (.cells sch0 43)).heap.size = w.heap.size + 4 := (by rw [World.size_alloc]; omega); have hB2 := balloc hB1 (.cells sch0 43); have hg2 := (Below.heap_alloc w1 (.cells sch0 43) w.heap.size (by omega)).trans hg1; have hr2 := (Below.heap_alloc w1 (.cells sch0 43) (w.heap.size + 1) (by omega)).trans hr1; have hv2 := (Below.heap_alloc w1 (.cells sch0 43) (w.heap.size + 2) (by omega)).trans hv1; have hn2 := heap_alloc_new w1 (.cells sch0 43); rw [hs1] at hn2 ⊢; generalize w1.alloc (.cells sch0 43) = w2 at hB2 hg2 hr2 hv2 hn2 hz2 ⊢)
    | ((with_reducible refine alloc_blk sch0 run_alloc_sch rfl rfl ?_); (try simp only [World.size_alloc, Act.put, List.setIfInBounds_toArray, List.set_cons_zero, List.set_cons_succ]); generalize hW : (((w.alloc (.cells (hbL n m xs).toArray 36)).alloc (.cells #[.int .i64 2] 3)).alloc (.cells sch0 43)) = w1 at hB1 hg1 hr1 hv1 hs1 q0 q1 ⊢)
    | ((with_reducible refine store_blk blkSch rfl _ _ rfl (w.heap.size + 3) (schA n m ((n - 1 : Nat) : Int) (lnF 20 n m) (opF 21 w.heap.size (w.heap.size + 1)) (opF 23 w.heap.size (w.heap.size + 1))) sch0 ?_ ?_ hn2 rfl rfl (schA_one _ _ _ _ _ _ _ _ _ _ _ _) w.heap.size (by omega) ?_); exact rfl; exact rfl; intro w3 hg3 hb3 hk3 hs3; have hgb := (hk3 w.heap.size (by omega)).trans hg2; have hgr := (hk3 (w.heap.size + 1) (by omega)).trans hr2; have hgv := (hk3 (w.heap.size + 2) (by omega)).trans hv2; have q5 := blk_cell hgr 0 (.int .i64 2) rfl; have q6 := blk_cell hgb 0 (.int .i64 n) rfl; have q7 := blk_cell hgb 1 (.int .i64 m) rfl)
    | ((with_reducible refine store_win szI rfl _ _ rfl (w.heap.size + 3) 2 (.int .i64 ((m - 1 : Nat) : Int)) (schA n m ((n - 1 : Nat) : Int) (lnF 20 n m) (opF 21 w.heap.size (w.heap.size + 1)) (opF 23 w.heap.size (w.heap.size + 1))) (schA n m ((m - 1 : Nat) : Int) (lnF 20 n m) (opF 21 w.heap.size (w.heap.size + 1)) (opF 23 w.heap.size (w.heap.size + 1))) ?_ ?_ hg3 ?_ ?_ ?_ ?_ w.heap.size (by omega) ?_); exact rfl; exact rfl; exact rfl; exact Nat.le_of_ble_eq_true rfl; exact rfl; simp [Value.cells, Value.oneCell']; intro w4 hg4 hb4 hk4 hs4; have q8 := (World.cell?_of_block (a := ⟨w.heap.size, 0, none⟩) (hk4 w.heap.size (by omega))).trans q6; have q9 := (World.cell?_of_block (a := ⟨w.heap.size, 1, none⟩) (hk4 w.heap.size (by omega))).trans q7)
    | ((with_reducible refine store_win szFn rfl _ _ rfl (w.heap.size + 3) 3 (lnF 24 n m) (schA n m ((m - 1 : Nat) : Int) (lnF 20 n m) (opF 21 w.heap.size (w.heap.size + 1)) (opF 23 w.heap.size (w.heap.size + 1))) (schA n m ((m - 1 : Nat) : Int) (lnF 24 n m) (opF 21 w.heap.size (w.heap.size + 1)) (opF 23 w.heap.size (w.heap.size + 1))) ?_ ?_ hg4 ?_ ?_ ?_ ?_ w.heap.size (by omega) ?_); exact rfl; exact rfl; exact rfl; exact Nat.le_of_ble_eq_true rfl; exact rfl; simp [Value.cells, Value.oneCell', lnF]; intro w5 hg5 hb5 hk5 hs5)
    | ((with_reducible refine load_blk blkSch ?_ _ rfl (w.heap.size + 3) ?_ (schA n m ((m - 1 : Nat) : Int) (lnF 24 n m) (opF 21 w.heap.size (w.heap.size + 1)) (opF 23 w.heap.size (w.heap.size + 1))) hg5 rfl ?_); exact rfl; exact rfl; simp only [Act.put, List.setIfInBounds_toArray, List.set_cons_zero, List.set_cons_succ])
    | ((with_reducible refine store_blk blkSch rfl _ _ rfl (w.heap.size + 2) (schA n m ((m - 1 : Nat) : Int) (lnF 24 n m) (opF 21 w.heap.size (w.heap.size + 1)) (opF 23 w.heap.size (w.heap.size + 1))) sch0 ?_ ?_ ((hk5 _ (by omega)).trans ((hk4 _ (by omega)).trans hgv)) rfl rfl (schA_one _ _ _ _ _ _ _ _ _ _ _ _) w.heap.size (by omega) ?_); exact rfl; exact rfl; intro w6 hg6 hb6 hk6 hs6))
  exact bodyPost_ret (results_blk1 blkSch rfl _ _ (w.heap.size + 2) _ rfl hg6 rfl) rfl ⟨_, _, rfl, ⟨(hk6 _ (by omega)).trans ((hk5 _ (by omega)).trans ((hk4 _ (by omega)).trans hgb)), (hk6 _ (by omega)).trans ((hk5 _ (by omega)).trans ((hk4 _ (by omega)).trans hgr))⟩, by omega, by omega, (((hB2.trans hb3).trans hb4).trans hb5).trans hb6⟩
end Go.Proofs.YtianmmjjcegkjaaDoor
