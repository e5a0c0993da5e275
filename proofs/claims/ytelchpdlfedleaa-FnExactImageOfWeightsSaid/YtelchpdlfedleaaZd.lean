import Derived.Test.YtelchpdlfedleaaZa
import Derived.Laws.CopyOwn
namespace Go.Proofs.Ytelchpdlfedleaa
open Go.RowKit
set_option maxRecDepth 4000
theorem TW : ∀ r : Nat, r < 9 → wrap64 ((wrap64 ((r : Int) * ((r : Int) + 1))).tdiv 2) = (Pr.T r : Nat) := by decide +kernel
theorem T_small : ∀ r : Nat, r < 9 → Pr.T r ≤ 36 := by decide
set_option maxHeartbeats 400000 in
theorem meIndex_any (n x z : Int) (b cap : Nat) (h2 : n ≤ 8) (x0 : 0 ≤ x) (x1 : x ≤ n) (z0 : 0 ≤ z) (z1 : z ≤ 8) (w : World)
    (c0 : w.cell? ⟨b, 0, none⟩ = some (.int .i64 x)) (c2 : w.cell? ⟨b, 2, none⟩ = some (.int .i64 z)) :
    Calls Try.prog 136 #[.int .i64 n, .slice (some ⟨b, 0, none⟩) 3 cap] w fun e w' => e = .returned (.int .i64 ((Pr.T (n - x).toNat : Nat) + z)) ∧ w = w' := by
  have hT := TW (n - x).toNat (by omega)
  have hS := T_small (n - x).toNat (by omega)
  rw [Int.toNat_of_nonneg (by omega)] at hT
  have HT := Lib.hid hT
  have HS := Lib.hid hS
  clear hT hS
  go_enter Try.func136, Try.ntmps136
  go_wp2
  go_ret
  refine ⟨ret_int ?_, rfl⟩
  rw [HT.out]
  have := HS.out
  exact IntWalk.wrap64_in _ ⟨by omega, by omega⟩
set_option maxHeartbeats 400000 in
theorem indexOf_any (n x y z : Int) (h2 : n ≤ 8) (x0 : 0 ≤ x) (x1 : x ≤ n) (z0 : 0 ≤ z) (z1 : z ≤ 8) (w : World) :
    Calls Try.prog 116 #[.agg #[.int .i64 n], .agg #[.int .i64 x, .int .i64 y, .int .i64 z]] w fun e w' => e = .returned (.int .i64 ((Pr.T (n - x).toNat : Nat) + z)) ∧ Below w.heap.size w w' := by
  have hT := TW (n - x).toNat (by omega)
  have hS := T_small (n - x).toNat (by omega)
  rw [Int.toNat_of_nonneg (by omega)] at hT
  have HT := Lib.hid hT
  have HS := Lib.hid hS
  clear hT hS
  go_enter Try.func116, Try.ntmps116
  go_wp2
  go_ret
  refine ⟨ret_int ?_, by go_grown⟩
  rw [HT.out]
  have := HS.out
  exact IntWalk.wrap64_in _ ⟨by omega, by omega⟩
end Go.Proofs.Ytelchpdlfedleaa

namespace Go.Proofs.Ytelchpdlfedleaa
open Go.RowKit
set_option maxRecDepth 4000
end Go.Proofs.Ytelchpdlfedleaa

namespace Go.Proofs.Ytelchpdlfedleaa
open Go.RowKit
set_option maxRecDepth 4000
def dist (X Y : List Int) (k : Nat) : Int := ((X.getD k 0 - Y.getD k 0).natAbs : Nat)
def sumD (X Y : List Int) : Nat → Int
  | 0 => 0
  | k + 1 => sumD X Y k + dist X Y k
/-- Neighbours: no number differs by more than 1, and two differ. -/
def nearB (X Y : List Int) : Bool := decide (dist X Y 0 ≤ 1 ∧ dist X Y 1 ≤ 1 ∧ dist X Y 2 ≤ 1 ∧ sumD X Y 3 = 2)
def cntD (X Y : List Int) (v : Int) : Nat → Int
  | 0 => 0
  | k + 1 => cntD X Y v k + if Y.getD k 0 - X.getD k 0 = v then 1 else 0
theorem near_cnt (a b c d e f : Int) (h : a + b + c = d + e + f) :
    nearB [a, b, c] [d, e, f] = decide (cntD [a, b, c] [d, e, f] 1 3 = 1 ∧ cntD [a, b, c] [d, e, f] (-1) 3 = 1 ∧ cntD [a, b, c] [d, e, f] 0 3 = 1) := by
  simp only [nearB, cntD, sumD, dist, List.getD_cons_zero, List.getD_cons_succ]
  rw [Bool.eq_iff_iff]
  simp only [decide_eq_true_eq]
  omega
theorem near_far (X Y : List Int) (k : Nat) (hk : k < 3) (h : 1 < dist X Y k) : nearB X Y = false := by
  rcases (show k = 0 ∨ k = 1 ∨ k = 2 by omega) with rfl | rfl | rfl <;> simp [nearB] <;> omega
set_option maxHeartbeats 400000 in
theorem l1Abs_any (d : Int) (h0 : -1000 ≤ d) (h1 : d ≤ 1000) (w : World) :
    Calls Try.prog 102 #[.int .i64 d] w fun e w' => e = .returned (.int .i64 (d.natAbs : Nat)) ∧ w' = w := by
  by_cases h : -d < d
  · go_enter Try.func102, Try.ntmps102
    go_wp2
    go_ret
    exact ⟨ret_int (by omega), rfl⟩
  · go_enter Try.func102, Try.ntmps102
    go_wp2
    go_ret
    exact ⟨ret_int (by omega), rfl⟩
theorem small_getD {X : List Int} (h : ∀ x ∈ X, -100 ≤ x ∧ x ≤ 100) (k : Nat) : -100 ≤ X.getD k 0 ∧ X.getD k 0 ≤ 100 := by
  by_cases hk : k < X.length
  · simp only [List.getD, List.getElem?_eq_getElem hk, Option.getD_some]; exact h _ (List.getElem_mem hk)
  · simp [List.getD, List.getElem?_eq_none (Nat.le_of_not_lt hk)]
theorem cell3 (w : World) (a b c : Int) (t : TypeId) (k : Nat) (hk : k < 3) : (w.alloc (.cells #[.int .i64 a, .int .i64 b, .int .i64 c] t)).cell? ⟨w.heap.size, k, none⟩ = some (.int .i64 ([a, b, c].getD k 0)) := by
  rcases (show k = 0 ∨ k = 1 ∨ k = 2 by omega) with rfl | rfl | rfl <;> go_cell
set_option maxHeartbeats 1000000 in
theorem meNear_core (n i j a b c d e f : Int) (hX : ∀ x ∈ [a, b, c], -100 ≤ x ∧ x ≤ 100) (hY : ∀ x ∈ [d, e, f], -100 ≤ x ∧ x ≤ 100)
    (hm : ∀ w, Calls Try.prog 77 #[.int .i64 n, .int .i64 i] w fun e w' => e = .returned (.slice (some ⟨w.heap.size, 0, none⟩) 3 3) ∧ w' = w.alloc (.cells #[.int .i64 a, .int .i64 b, .int .i64 c] 3))
    (hm2 : ∀ w, Calls Try.prog 77 #[.int .i64 n, .int .i64 j] w fun e' w' => e' = .returned (.slice (some ⟨w.heap.size, 0, none⟩) 3 3) ∧ w' = w.alloc (.cells #[.int .i64 d, .int .i64 e, .int .i64 f] 3)) (w : World) :
    Calls Try.prog 99 #[.int .i64 n, .int .i64 i, .int .i64 j] w fun e' w' => e' = .returned (.bool (nearB [a, b, c] [d, e, f])) ∧ Below w.heap.size w w' := by
  have HM := Lib.hid hm
  have HM2 := Lib.hid hm2
  have SX := Lib.hid (small_getD hX)
  have SY := Lib.hid (small_getD hY)
  have C1 := Lib.hid (cell3 w a b c 3)
  have C2 := Lib.hid (cell3 (w.alloc (.cells #[.int .i64 a, .int .i64 b, .int .i64 c] 3)) d e f 3)
  clear hm hm2 hX hY
  go_enter Try.func99, Try.ntmps99
  go_wp2_with fail
  refine (HM.out _).mono ?_
  rintro e1 w1 ⟨rfl, rfl⟩
  go_wp2_with fail
  refine (HM2.out _).mono ?_
  rintro e1 w1 ⟨rfl, rfl⟩
  go_wp2_with fail
  go_loopw [9, 19] (fun v9 v19 wr => ∃ k : Nat, k ≤ 3 ∧ v19 = .int .i64 k ∧ v9 = .int .i64 (sumD [a, b, c] [d, e, f] k) ∧ (∀ j, j < k → dist [a, b, c] [d, e, f] j ≤ 1) ∧ 0 ≤ sumD [a, b, c] [d, e, f] k ∧ sumD [a, b, c] [d, e, f] k ≤ k ∧
     Same ((w.alloc (.cells #[.int .i64 a, .int .i64 b, .int .i64 c] 3)).alloc (.cells #[.int .i64 d, .int .i64 e, .int .i64 f] 3)) wr) (fun _ v19 _ => 3 - (intOf v19).toNat)
  case atStart => exact ⟨0, by omega, rfl, rfl, by omega, by simp [sumD], by simp [sumD], Same.refl _⟩
  case round =>
    obtain ⟨k, hk, rfl, rfl, hd, hs0, hs1, hs⟩ := hrel
    have HD := Lib.hid hd
    clear hd
    by_cases hlt : k < 3
    · have c1 : wr.cell? ⟨w.heap.size, k, none⟩ = some (.int .i64 ([a, b, c].getD k 0)) := by
        rw [hs.cell, World.cell?_alloc_past _ _ _ (by simp)]; exact C1.out k hlt
      have c2 : wr.cell? ⟨w.heap.size + 1, k, none⟩ = some (.int .i64 ([d, e, f].getD k 0)) := by
        rw [hs.cell]; have := C2.out k hlt; simpa only [World.size_alloc] using this
      have sx := SX.out k
      have sy := SY.out k
      have hdist : dist [a, b, c] [d, e, f] k = (([a, b, c].getD k 0 - [d, e, f].getD k 0).natAbs : Nat) := rfl
      have hsum : sumD [a, b, c] [d, e, f] (k + 1) = sumD [a, b, c] [d, e, f] k + dist [a, b, c] [d, e, f] k := rfl
      have hfar := Lib.hid (near_far [a, b, c] [d, e, f] k hlt)
      generalize sumD [a, b, c] [d, e, f] k = S at *
      rw [hdist] at hfar hsum
      have HS := Lib.hid hsum
      have HDI := Lib.hid hdist
      clear hdist hsum
      generalize [a, b, c].getD k 0 = x at *
      generalize [d, e, f].getD k 0 = y at *
      have hlk : (k : Int) < 3 := by omega
      by_cases hbig : 1 < ((x - y).natAbs : Int)
      · go_wp2_with fail
        go_quiet ((go_at_call 102; exact Calls.quiet_of_same (l1Abs_any _ (by omega) (by omega) _)))
        go_wp2_with fail
        go_ret
        rw [hfar.out (by simpa using hbig)]
        exact ⟨rfl, below_same (by go_grown) (hs.drewN _)⟩
      · go_wp2_with fail
        go_quiet ((go_at_call 102; exact Calls.quiet_of_same (l1Abs_any _ (by omega) (by omega) _)))
        rename_i nq
        have hs2 := hs.drewN nq
        have c3 : (wr.drewN nq).cell? ⟨w.heap.size, k, none⟩ = some (.int .i64 x) := ((Same.refl wr).drewN nq).cell _ |>.trans c1
        have c4 : (wr.drewN nq).cell? ⟨w.heap.size + 1, k, none⟩ = some (.int .i64 y) := ((Same.refl wr).drewN nq).cell _ |>.trans c2
        clear hs c1 c2
        generalize wr.drewN nq = w2 at *
        go_wp2_with fail
        go_quiet ((go_at_call 102; exact Calls.quiet_of_same (l1Abs_any _ (by omega) (by omega) _)))
        go_wp2_with fail
        go_roundw
        case rel =>
          refine ⟨k + 1, by omega, by go_num, by rw [HS.out], ?_, ?_, ?_, hs2.drewN _⟩
          · intro j hj
            by_cases hjk : j < k
            · exact HD.out j hjk
            · have : j = k := by omega
              subst this
              rw [HDI.out]; omega
          · rw [HS.out]; omega
          · rw [HS.out]; omega
        case measure => simp [intOf]; omega
    · have hk3 : k = 3 := by omega
      subst hk3
      have h0 := HD.out 0 (by omega)
      have h1 := HD.out 1 (by omega)
      have h2 := HD.out 2 (by omega)
      have hN : nearB [a, b, c] [d, e, f] = (sumD [a, b, c] [d, e, f] 3 == 2) := by
        rw [Bool.eq_iff_iff]; simp [nearB, h0, h1, h2]
      have HN := Lib.hid hN
      generalize sumD [a, b, c] [d, e, f] 3 = S at *
      clear hN h0 h1 h2
      go_wp2_with fail
      go_ret
      rw [HN.out]
      exact ⟨rfl, below_same (by go_grown) hs⟩
theorem pt_small (n i : Nat) (h2 : n ≤ 8) (hi : i < 45) : ∀ x ∈ [(n : Int) - (Pr.R i : Nat), (Pr.R i : Int) - (Pr.C i : Nat), (Pr.C i : Nat)], -100 ≤ x ∧ x ≤ 100 := by
  have := Pr.RC_bd i hi
  intro x hx
  simp only [List.mem_cons, List.not_mem_nil, or_false] at hx
  rcases hx with rfl | rfl | rfl <;> omega
theorem meNear_any (n i j : Nat) (h1 : 1 ≤ n) (h2 : n ≤ 8) (hi : i < 45) (hj : j < 45) (w : World) :
    Calls Try.prog 99 #[.int .i64 n, .int .i64 i, .int .i64 j] w fun e' w' => e' = .returned (.bool (nearB (pt n i) (pt n j))) ∧ Below w.heap.size w w' :=
  meNear_core n i j _ _ _ _ _ _ (pt_small n i h2 hi) (pt_small n j h2 hj) (fun w => meAt_any n i h1 h2 hi w) (fun w => meAt_any n j h1 h2 hj w) w
end Go.Proofs.Ytelchpdlfedleaa

namespace Go.Proofs.Ytelchpdlfedleaa
open Go.RowKit
set_option maxRecDepth 4000
/-- Labels as the program keeps them: the side, the labels, noughts. -/
def labL (n : Nat) (xs : List Int) : List Value := .int .i64 n :: (xs.map (Value.int .i64) ++ List.replicate (45 - xs.length) (.int .i64 0))
theorem labL_len (n : Nat) (xs : List Int) (h : xs.length ≤ 45) : (labL n xs).length = 46 := by simp [labL]; omega
def zeroA : Array Value := (List.replicate 46 (Value.int .i64 0)).toArray
def lab0 (n : Int) : Array Value := (Value.int .i64 n :: List.replicate 45 (Value.int .i64 0)).toArray
theorem zeroA_size : zeroA.size = 46 := by simp [zeroA]
theorem lab0_size (n : Int) : (lab0 n).size = 46 := by simp [lab0]
theorem zeroA_one : zeroA.all (·.oneCell') = true := by decide +kernel
theorem lab0_one (n : Int) : (lab0 n).all (·.oneCell') = true := by
  simp only [lab0, List.all_toArray, List.all_cons, List.all_replicate]; rfl
theorem labSize : (Try.prog.info? 110).map (·.size) = some 46 := by kernel_rfl
theorem run_alloc_lab (w : World) : (Instr.alloc 110 true (.tuple #[])).run Try.prog w = .ok (.pointer (some ⟨w.heap.size, 0, none⟩)) (w.alloc (.cells zeroA 110)) := by kernel_rfl
section
variable {ops : Array Oper} {rest : List Oper} {o : Oper} {a : Act} {w : World} {Q : Exit → Act → World → Prop}
theorem alloc_lab (hgd : o.guard = none) (ho : o.op = .alloc 110)
    (h : wpList Try.prog ops Q rest (a.put o.dst (.pointer (some ⟨w.heap.size, 0, none⟩))) (w.alloc (.cells zeroA 110))) : wpList Try.prog ops Q (o :: rest) a w := by
  refine wpList_plain hgd fun K hK => ?_
  unfold Oper.wp
  simp [execOp, ho, run_alloc_lab, Result.andThen]
  exact hK _ _ h
theorem run_build0 (w : World) : (Instr.build 110 #[]).run Try.prog w = .ok (.agg zeroA) w := by kernel_rfl
theorem run_buildn (n : Int) (w : World) : (Instr.build 110 #[(0, .agg #[.int .i64 n])]).run Try.prog w = .ok (.agg (lab0 n)) w := by kernel_rfl
theorem build0_lab (hgd : o.guard = none) (ho : o.op = .build 110 #[])
    (h : wpList Try.prog ops Q rest (a.put o.dst (.agg zeroA)) w) : wpList Try.prog ops Q (o :: rest) a w := by
  refine wpList_plain hgd fun K hK => ?_
  unfold Oper.wp
  simp [execOp, ho, run_build0, Result.andThen]
  exact hK _ _ h
theorem buildn_lab (hgd : o.guard = none) (x : Operand) (n : Int) (ho : o.op = .build 110 #[(0, x)]) (hx : a.eval x = .agg #[.int .i64 n])
    (h : wpList Try.prog ops Q rest (a.put o.dst (.agg (lab0 n))) w) : wpList Try.prog ops Q (o :: rest) a w := by
  refine wpList_plain hgd fun K hK => ?_
  unfold Oper.wp
  simp [execOp, ho, hx, run_buildn, Result.andThen]
  exact hK _ _ h
/-- A whole store into a block of the call's own. -/
theorem store_lab (hgd : o.guard = none) (x y : Operand) (ho : o.op = .store 110 x y) (g : Nat) (cells old : Array Value) (hx : a.eval x = .pointer (some ⟨g, 0, none⟩)) (hy : a.eval y = .agg cells)
    (hg : w.heap[g]? = some (.cells old 110 (0, 0))) (hold : old.size = 46) (hc : cells.size = 46) (h1 : cells.all (·.oneCell') = true) (B : Nat) (hB : B ≤ g)
    (h : ∀ w', w'.heap[g]? = some (.cells cells 110 (0, 0)) → Below B w w' → wpList Try.prog ops Q rest (a.put o.dst undef) w') : wpList Try.prog ops Q (o :: rest) a w := by
  refine wpList_store_row hgd _ x y ho g cells hx hy _ old hg (by rw [labSize, hc]) (by omega) h1 ?_
  exact h _ (setRow_heap w g old cells _ _ hg) (below_setRow (Below.refl _ _) hB _)
theorem load_lab (hgd : o.guard = none) (x : Operand) (ho : o.op = .load 110 x) (g : Nat) (hx : a.eval x = .pointer (some ⟨g, 0, none⟩)) (cs : Array Value) (hg : w.heap[g]? = some (.cells cs 110 (0, 0))) (hc : cs.size = 46)
    (h : wpList Try.prog ops Q rest (a.put o.dst (.agg cs)) w) : wpList Try.prog ops Q (o :: rest) a w :=
  wpList_load_row hgd _ x ho g hx _ cs (0, 0) _ hg Try.underlying110 rfl (by rw [labSize, hc]) h
end
end Go.Proofs.Ytelchpdlfedleaa

namespace Go.Proofs.Ytelchpdlfedleaa
open Go.RowKit
set_option maxRecDepth 4000
theorem splice_lab (n : Nat) (xs : List Int) : splice (lab0 n).toList 1 (xs.map (Value.int .i64)) = labL n xs := by
  simp only [splice, lab0, labL, List.take_succ_cons, List.take_zero, List.length_map, List.toList_toArray, List.cons_append, List.nil_append]
  congr 1
  rw [show 1 + xs.length = xs.length + 1 by omega, List.drop_succ_cons, List.drop_replicate]
theorem labL_one (n : Nat) (xs : List Int) : (labL n xs).toArray.all (·.oneCell') = true := by
  simp only [labL, List.all_toArray, List.all_cons, List.all_append, List.all_map, List.all_replicate, Bool.and_eq_true]
  refine ⟨rfl, ?_, ?_⟩
  · simp only [List.all_eq_true]; intro x _; rfl
  · split <;> rfl
theorem labL_size (n : Nat) (xs : List Int) (h : xs.length ≤ 45) : (labL n xs).toArray.size = 46 := by rw [List.size_toArray]; exact labL_len n xs h
theorem copy_lab {ops : Array Oper} {rest : List Oper} {o : Oper} {a : Act} {w : World} {Q : Exit → Act → World → Prop} (hgd : o.guard = none) (d s : Operand)
    (ho : o.op = .call { callee := .builtin .copy, args := #[d, s], argTypes := #[27, 27] }) (g n : Nat) (xs : List Int) (ad : Option Addr) (b off len cap : Nat)
    (hd : a.eval d = .slice (some ⟨g, 1, none⟩) 45 45) (hs : a.eval s = .slice ad len cap) (hg : w.heap[g]? = some (.cells (lab0 n) 110 (0, 0))) (hr : Rd w ad b off xs) (hn : xs.length = len) (hl : len ≤ 45) (B : Nat) (hB : B ≤ g)
    (h : ∀ w', w'.heap[g]? = some (.cells (labL n xs).toArray 110 (0, 0)) → Below B w w' → wpList Try.prog ops Q rest (a.put o.dst (goInt (xs.map (Value.int .i64)).length)) w') : wpList Try.prog ops Q (o :: rest) a w := by
  refine wpList_copy_splice hgd d s 27 27 ho 3 Try.underlying27 (by kernel_rfl) (some ⟨g, 1, none⟩) ad 45 45 len cap hd hs g 1 (lab0 n).toList 110 (by simpa using hg) (xs.map (Value.int .i64)) ?_ ?_ ?_ (ints_oneCell _ _) B w (Below.refl _ _) hB ?_
  · rw [List.length_map, hn]; simp [Nat.min_def]; omega
  · intro hp
    refine ⟨rfl, ⟨b, off, none⟩, ?_, ?_⟩
    · exact (hr.2 0 (by simpa using hp)).1
    · intro j v hv
      have hj : j < xs.length := by have := (List.getElem?_eq_some_iff.1 hv).1; simpa using this
      rw [Addr.add_lit, (hr.2 j hj).2]
      simp [List.getD, hj] at hv ⊢
      exact hv
  · rw [List.length_map, hn]; simp [lab0]; omega
  · intro w' hw hb
    refine h w' ?_ hb
    have := hw.out
    rwa [splice_lab] at this
theorem results_lab {fn : Func} {p q : Tmp} (h : fn.results = #[.cell p 110, .tmp q]) (tmps : Array Value) (w : World) (g : Nat) (cs : Array Value) (v : Value)
    (hp : tmps.getD p undef = .pointer (some ⟨g, 0, none⟩)) (hq : tmps.getD q undef = v) (hg : w.heap[g]? = some (.cells cs 110 (0, 0))) (hc : cs.size = 46) :
    (results fn tmps).run Try.prog w = .ok (.tuple #[.agg cs, v]) w := by
  have hp' : tmps[p]?.getD undef = .pointer (some ⟨g, 0, none⟩) := by simpa using hp
  have hq' : tmps[q]?.getD undef = v := by simpa using hq
  have hload := run_loadVar_row (P := Try.prog) w g 110 110 cs (0, 0) _ hg Try.underlying110 rfl (by rw [labSize, hc])
  simp [results, h, hp', hq', asAddr, hload]
set_option maxHeartbeats 1000000 in
theorem withLabels_yes (n : Nat) (xs : List Int) (a : Option Addr) (b off len cap : Nat) (h1 : 1 ≤ n) (h2 : n ≤ 8) (w : World) (hn : xs.length = len) (h : Rd w a b off xs) (hb0 : len = 0 ∨ b < w.heap.size)
    (hl : len = Pr.cnt n) (hA : allB 0 2 xs = true) :
    Calls Try.prog 140 #[.agg #[.int .i64 n], .slice a len cap] w fun e w' => e = .returned (.tuple #[.agg (labL n xs).toArray, .bool true]) ∧ Below w.heap.size w w' := by
  have hc := (Pr.cnt_le n (by omega)).1
  have hbl : b < w.heap.size ∨ len = 0 := by omega
  have HR := Lib.hid h
  have HN := Lib.hid hn
  have HA := Lib.hid hA
  have hne : ((len : Int) != (Pr.cnt n : Nat)) = false := by rw [hl]; simp
  have HL := Lib.hid hl
  have hlb : len ≤ 45 := by omega
  clear h hn hA hl hb0
  go_enter Try.func140, Try.ntmps140
  go_wp2_with (with_reducible refine alloc_lab rfl rfl ?_)
  refine (size_any n h2 _).mono ?_
  rintro e w1 ⟨rfl, hb1⟩
  have hB1 : Below w.heap.size w w1 := Below.trans (by go_grown) (hb1.mono (by simp; omega))
  have HRD : Hid (∀ W, Below w.heap.size w W → Rd W a b off xs) := by
    intro W hB
    refine ⟨HR.out.1, fun j hj => ⟨(HR.out.2 j hj).1, ?_⟩⟩
    rcases hbl with h | h
    · exact (hB.cell h).trans (HR.out.2 j hj).2
    · rw [HN.out, h] at hj; exact absurd hj (Nat.not_lt_zero _)
  have HR1 := Lib.hid (HRD.out _ hB1)
  have hm1 : w1.cell? ⟨w.heap.size, 0, none⟩ = some (.int .i64 n) := (hb1.cell (by simp; omega)).trans (by go_simp)
  have hres : w1.heap[w.heap.size + 1]? = some (.cells zeroA 110 (0, 0)) := by
    have hnew : ∀ (o : Obj), ((w.alloc (.cells #[.int .i64 n] 48)).alloc o).heap[w.heap.size + 1]? = some o := fun o => by
      have := heap_alloc_new (w.alloc (.cells #[.int .i64 n] 48)) o
      rwa [World.size_alloc] at this
    exact (hb1.block _ (by simp)).trans (hnew _)
  have hz1 := hb1.size
  simp only [World.size_alloc] at hz1
  have HRES := Lib.hid hres
  have HM1 := Lib.hid hm1
  clear hb1 hres hm1
  have hmx : len ≤ 9223372036854775807 := by omega
  go_wp2_with fail
  go_loop [17] (fun v17 => ∃ k : Nat, k ≤ len ∧ v17 = .int .i64 k) (fun v17 => len - (intOf v17).toNat)
  case atStart => exact ⟨0, Nat.zero_le _, rfl⟩
  case round =>
    obtain ⟨k, hk, rfl⟩ := hrel
    by_cases hlt : k < len
    · obtain ⟨ha, c⟩ := HR1.out.2 k (by rw [HN.out]; exact hlt)
      obtain ⟨l0, l2⟩ := allB_at HA.out k (by rw [HN.out]; exact hlt)
      subst ha
      generalize xs.getD k 0 = x at *
      go_wp2_with fail
      go_round
      case rel => exact ⟨k + 1, by omega, by go_num⟩
      case measure => simp [intOf]; omega
    · have hm := HM1.out
      have hk2 : len = k := by omega
      subst hk2
      have hlt1 : w.heap.size + 1 < w1.heap.size := by omega
      have hsz := labL_size n xs (by have := HN.out; omega)
      go_wp2_with (first | ((with_reducible refine buildn_lab rfl _ n rfl ?_ ?_); exact rfl) | (with_reducible refine alloc_lab rfl rfl ?_) | ((with_reducible refine store_lab rfl _ _ rfl w1.heap.size (lab0 n) zeroA ?_ ?_ ?_ zeroA_size (lab0_size _) (lab0_one _) w1.heap.size (Nat.le_refl _) ?_); exact rfl; exact rfl; exact heap_alloc_new _ _; intro w2 hg2 hb2; have hB2 := (balloc hB1 (.cells zeroA 110)).trans (hb2.mono hB1.size); have hR2 := Lib.hid (HRD.out _ hB2); have hres2 := Lib.hid ((hb2.block _ hlt1).trans ((Below.heap_alloc w1 _ _ hlt1).trans HRES.out))) | ((with_reducible refine copy_lab rfl _ _ rfl w1.heap.size n xs a b off len cap ?_ ?_ hg2 hR2.out HN.out hlb w1.heap.size (Nat.le_refl _) ?_); exact rfl; exact rfl; intro w3 hg3 hb3; have hB3 := hB2.trans (hb3.mono hB1.size); have hres3 := Lib.hid ((hb3.block _ hlt1).trans hres2.out)) | ((with_reducible refine load_lab rfl _ rfl w1.heap.size ?_ (labL n xs).toArray hg3 hsz ?_); exact rfl) | ((with_reducible refine store_lab rfl _ _ rfl (w.heap.size + 1) (labL n xs).toArray zeroA ?_ ?_ hres3.out zeroA_size hsz (labL_one _ _) (w.heap.size + 1) (Nat.le_refl _) ?_); exact rfl; exact rfl; intro w4 hg4 hb4; have hB4 := hB3.trans (hb4.mono (Nat.le_succ _))))
      exact bodyPost_ret (results_lab rfl _ _ (w.heap.size + 1) _ _ rfl rfl hg4 hsz) rfl ⟨rfl, hB4⟩
set_option maxHeartbeats 1000000 in
theorem withLabels_no (n : Nat) (xs : List Int) (a : Option Addr) (b off len cap : Nat) (h1 : 1 ≤ n) (h2 : n ≤ 8) (w : World) (hn : xs.length = len) (h : Rd w a b off xs) (hb0 : len = 0 ∨ b < w.heap.size)
    (hno : ¬ (len = Pr.cnt n ∧ allB 0 2 xs = true)) (hmax : len ≤ 1048576) :
    Calls Try.prog 140 #[.agg #[.int .i64 n], .slice a len cap] w fun e w' => e = .returned (.tuple #[.agg zeroA, .bool false]) ∧ Below w.heap.size w w' := by
  have hc := (Pr.cnt_le n (by omega)).1
  have hbl : b < w.heap.size ∨ len = 0 := by omega
  have HR := Lib.hid h
  have HN := Lib.hid hn
  have HNO := Lib.hid hno
  have hbl2 : len ≤ 9223372036854775807 := by omega
  clear h hn hno hb0
  go_enter Try.func140, Try.ntmps140
  go_wp2_with (with_reducible refine alloc_lab rfl rfl ?_)
  refine (size_any n h2 _).mono ?_
  rintro e w1 ⟨rfl, hb1⟩
  have hB1 : Below w.heap.size w w1 := Below.trans (by go_grown) (hb1.mono (by simp; omega))
  have HRD : Hid (∀ W, Below w.heap.size w W → Rd W a b off xs) := by
    intro W hB
    refine ⟨HR.out.1, fun j hj => ⟨(HR.out.2 j hj).1, ?_⟩⟩
    rcases hbl with h | h
    · exact (hB.cell h).trans (HR.out.2 j hj).2
    · rw [HN.out, h] at hj; exact absurd hj (Nat.not_lt_zero _)
  have HR1 := Lib.hid (HRD.out _ hB1)
  have hm1 : w1.cell? ⟨w.heap.size, 0, none⟩ = some (.int .i64 n) := (hb1.cell (by simp; omega)).trans (by go_simp)
  have hres : w1.heap[w.heap.size + 1]? = some (.cells zeroA 110 (0, 0)) := by
    have hnew : ∀ (o : Obj), ((w.alloc (.cells #[.int .i64 n] 48)).alloc o).heap[w.heap.size + 1]? = some o := fun o => by
      have := heap_alloc_new (w.alloc (.cells #[.int .i64 n] 48)) o
      rwa [World.size_alloc] at this
    exact (hb1.block _ (by simp)).trans (hnew _)
  have hz1 := hb1.size
  simp only [World.size_alloc] at hz1
  have HRES := Lib.hid hres
  have HM1 := Lib.hid hm1
  clear hb1 hres hm1
  by_cases hl : len = Pr.cnt n
  · have hne : ((len : Int) != (Pr.cnt n : Nat)) = false := by rw [hl]; simp
    have HL := Lib.hid hl
    clear hl
    go_wp2_with fail
    go_loop [17] (fun v17 => ∃ k : Nat, k ≤ len ∧ v17 = .int .i64 k ∧ ∀ j, j < k → 0 ≤ xs.getD j 0 ∧ xs.getD j 0 ≤ 2) (fun v17 => len - (intOf v17).toNat)
    case atStart => exact ⟨0, Nat.zero_le _, rfl, by omega⟩
    case round =>
      obtain ⟨k, hk, rfl, hall⟩ := hrel
      have HALL := Lib.hid hall
      clear hall
      by_cases hlt : k < len
      · obtain ⟨ha, c⟩ := HR1.out.2 k (by rw [HN.out]; exact hlt)
        subst ha
        by_cases hx : 0 ≤ xs.getD k 0 ∧ xs.getD k 0 ≤ 2
        · have HX := Lib.hid hx
          obtain ⟨l0, l2⟩ := hx
          generalize hxe : xs.getD k 0 = x at *
          have HXE := Lib.hid hxe
          clear hxe
          go_wp2_with fail
          go_round
          case rel =>
            refine ⟨k + 1, by omega, by go_num, fun j hj => ?_⟩
            by_cases hjk : j < k
            · exact HALL.out j hjk
            · obtain rfl : j = k := by omega
              rw [HXE.out]; exact HX.out
          case measure => simp [intOf]; omega
        · by_cases l0 : 0 ≤ xs.getD k 0
          · have l2 : ¬ xs.getD k 0 ≤ 2 := fun l2 => hx ⟨l0, l2⟩
            clear hx HALL
            generalize xs.getD k 0 = x at *
            go_wp2_with (first | ((with_reducible refine build0_lab rfl rfl ?_)) | ((with_reducible refine store_lab rfl _ _ rfl (w.heap.size + 1) zeroA zeroA ?_ ?_ HRES.out zeroA_size zeroA_size zeroA_one (w.heap.size + 1) (Nat.le_refl _) ?_); exact rfl; exact rfl; intro w4 hg4 hb4; have hB4 := hB1.trans (hb4.mono (Nat.le_succ _))))
            exact bodyPost_ret (results_lab rfl _ _ (w.heap.size + 1) _ _ rfl rfl hg4 zeroA_size) rfl ⟨rfl, hB4⟩
          · clear hx HALL
            generalize xs.getD k 0 = x at *
            go_wp2_with (first | ((with_reducible refine build0_lab rfl rfl ?_)) | ((with_reducible refine store_lab rfl _ _ rfl (w.heap.size + 1) zeroA zeroA ?_ ?_ HRES.out zeroA_size zeroA_size zeroA_one (w.heap.size + 1) (Nat.le_refl _) ?_); exact rfl; exact rfl; intro w4 hg4 hb4; have hB4 := hB1.trans (hb4.mono (Nat.le_succ _))))
            exact bodyPost_ret (results_lab rfl _ _ (w.heap.size + 1) _ _ rfl rfl hg4 zeroA_size) rfl ⟨rfl, hB4⟩
      · exfalso
        have hk2 : xs.length = k := by rw [HN.out]; omega
        exact HNO.out ⟨HL.out, allB_yes 0 2 xs (by rw [hk2]; exact HALL.out)⟩
  · have hne : ((len : Int) != (Pr.cnt n : Nat)) = true := by simp; omega
    clear hl
    go_wp2_with (first | ((with_reducible refine build0_lab rfl rfl ?_)) | ((with_reducible refine store_lab rfl _ _ rfl (w.heap.size + 1) zeroA zeroA ?_ ?_ HRES.out zeroA_size zeroA_size zeroA_one (w.heap.size + 1) (Nat.le_refl _) ?_); exact rfl; exact rfl; intro w4 hg4 hb4; have hB4 := hB1.trans (hb4.mono (Nat.le_succ _))))
    exact bodyPost_ret (results_lab rfl _ _ (w.heap.size + 1) _ _ rfl rfl hg4 zeroA_size) rfl ⟨rfl, hB4⟩
end Go.Proofs.Ytelchpdlfedleaa

namespace Go.Proofs.Ytelchpdlfedleaa
open Go.RowKit
set_option maxRecDepth 4000
/-- The list is labels for the side. -/
def labB (n : Int) (xs : List Int) : Bool := decide (1 ≤ n ∧ n ≤ 8 ∧ xs.length = Pr.cnt n.toNat ∧ allB 0 2 xs = true)
theorem labB_yes {n : Nat} {xs : List Int} (h : labB n xs = true) : 1 ≤ n ∧ n ≤ 8 ∧ xs.length = Pr.cnt n ∧ allB 0 2 xs = true := by
  simp only [labB, decide_eq_true_eq, Int.toNat_natCast] at h
  exact ⟨by omega, by omega, h.2.2⟩
theorem labB_no {n : Nat} {xs : List Int} (h1 : 1 ≤ n) (h2 : n ≤ 8) (h : labB n xs = false) : ¬ (xs.length = Pr.cnt n ∧ allB 0 2 xs = true) := by
  simp only [labB, decide_eq_false_iff_not, Int.toNat_natCast] at h
  exact fun hh => h ⟨by omega, by omega, hh⟩
set_option maxHeartbeats 800000 in
theorem meLabels_any (n : Int) (xs : List Int) (a : Option Addr) (b off len cap : Nat) (w : World) (hn : xs.length = len) (h : Rd w a b off xs) :
    Calls Try.prog 92 #[.int .i64 n, .slice a len cap] w fun e w' => e = .returned (.bool (labB n xs)) ∧ w = w' := by
  by_cases hs : 1 ≤ n ∧ n ≤ 8
  · obtain ⟨h1, h2⟩ := hs
    obtain ⟨n, rfl⟩ := Int.eq_ofNat_of_zero_le (show 0 ≤ n by omega)
    have hc := (Pr.cnt_le n (by omega)).1
    by_cases hl : len = Pr.cnt n
    · have hq : ((len : Int) == (Pr.cnt n : Nat)) = true := by rw [hl]; simp
      have hres : labB n xs = allB 0 2 xs := by
        rw [Bool.eq_iff_iff]; simp only [labB, decide_eq_true_eq, Int.toNat_natCast]
        exact ⟨fun h => h.2.2.2, fun h => ⟨h1, h2, by rw [hn, hl], h⟩⟩
      rw [hres]
      have HA := Lib.hid (l1All_any xs a b off len cap 0 2 w hn h)
      clear h hl hres hn
      go_enter Try.func92, Try.ntmps92
      go_wp2_with fail
      refine (meSide_yes n (by omega) (by omega) _).mono ?_
      rintro e w' ⟨rfl, rfl⟩
      go_wp2_with fail
      refine (meCount_any n (by omega) _).mono ?_
      rintro e w' ⟨rfl, rfl⟩
      go_wp2_with fail
      refine HA.out.mono ?_
      rintro e w' ⟨rfl, rfl⟩
      go_wp2_with fail
      go_ret
      exact ⟨rfl, rfl⟩
    · have hq : ((len : Int) == (Pr.cnt n : Nat)) = false := by simp; omega
      have hres : labB n xs = false := by
        simp only [labB, decide_eq_false_iff_not, Int.toNat_natCast]
        exact fun h => hl (by rw [← hn]; exact h.2.2.1)
      rw [hres]
      clear h hl hres hn
      go_enter Try.func92, Try.ntmps92
      go_wp2_with fail
      refine (meSide_yes n (by omega) (by omega) _).mono ?_
      rintro e w' ⟨rfl, rfl⟩
      go_wp2_with fail
      refine (meCount_any n (by omega) _).mono ?_
      rintro e w' ⟨rfl, rfl⟩
      go_wp2_with fail
      go_ret
      exact ⟨rfl, rfl⟩
  · have hres : labB n xs = false := by
      simp only [labB, decide_eq_false_iff_not]
      exact fun h => hs ⟨h.1, h.2.1⟩
    rw [hres]
    have HS := Lib.hid hs
    clear h hs hres
    go_enter Try.func92, Try.ntmps92
    go_wp2_with fail
    refine (meSide_no n HS.out _).mono ?_
    rintro e w' ⟨rfl, rfl⟩
    go_wp2_with fail
    go_ret
    exact ⟨rfl, rfl⟩
end Go.Proofs.Ytelchpdlfedleaa

namespace Go.Proofs.Ytelchpdlfedleaa
open Go.RowKit
set_option maxRecDepth 4000
theorem labB_side {n : Int} {xs : List Int} (h : ¬ (1 ≤ n ∧ n ≤ 8)) : labB n xs = false := by
  simp only [labB, decide_eq_false_iff_not]
  exact fun hh => h ⟨hh.1, hh.2.1⟩
set_option maxHeartbeats 800000 in
theorem labelledOf_any (n : Int) (xs : List Int) (a : Option Addr) (b len cap : Nat) (w : World) (hn : xs.length = len) (hsm : len ≤ 1048576) (h : Rd w a b 0 xs) (hb0 : len = 0 ∨ b < w.heap.size) :
    Calls Try.prog 125 #[.int .i64 n, .slice a len cap] w fun e w' => e = .returned (.tuple #[.agg (if labB n xs then (labL n.toNat xs).toArray else zeroA), .bool (labB n xs)]) ∧ Below w.heap.size w w' := by
  by_cases hs : 1 ≤ n ∧ n ≤ 8
  · obtain ⟨h1, h2⟩ := hs
    obtain ⟨n, rfl⟩ := Int.eq_ofNat_of_zero_le (show 0 ≤ n by omega)
    have HRD : Hid (∀ W, Below w.heap.size w W → Rd W a b 0 xs) := by
      intro W hB
      refine ⟨h.1, fun j hj => ⟨(h.2 j hj).1, ?_⟩⟩
      rcases hb0 with h' | h'
      · rw [hn, h'] at hj; exact absurd hj (Nat.not_lt_zero _)
      · exact (hB.cell h').trans (h.2 j hj).2
    have HN := Lib.hid hn
    clear h hn
    rw [Int.toNat_natCast]
    cases hL : labB n xs
    · have HL := Lib.hid hL
      clear hL
      simp only [Bool.false_eq_true, if_false]
      go_enter Try.func125, Try.ntmps125
      go_wp2_with (with_reducible refine alloc_lab rfl rfl ?_)
      refine (meshOf_yes n (by omega) (by omega) _).mono ?_
      rintro e w1 ⟨rfl, hb1⟩
      have hg1 : Hid (w1.heap[w.heap.size]? = some (.cells zeroA 110 (0, 0))) := (hb1.block _ (by simp)).trans (heap_alloc_new _ _)
      have hB0 := bnext (balloc (Below.refl w.heap.size w) (.cells zeroA 110)) hb1
      have hlt1 : w.heap.size < w1.heap.size := by have := hb1.size; simp at this; omega
      have hB1 := balloc hB0 (.cells #[.int .i64 n] 48)
      have hz1 := hB1.size
      have hbb : len = 0 ∨ b < (w1.alloc (.cells #[.int .i64 n] 48)).heap.size := by
        rcases hb0 with h | h
        · exact .inl h
        · exact .inr (by omega)
      go_wp2_with fail
      refine (withLabels_no n xs a b 0 len cap (by omega) (by omega) _ HN.out (HRD.out _ hB1) hbb (by rw [← HN.out]; exact labB_no (by omega) (by omega) HL.out) hsm).mono ?_
      rintro e w2 ⟨rfl, hb2⟩
      have hB2 := bnext hB1 hb2
      have hg2 : Hid (w2.heap[w.heap.size]? = some (.cells zeroA 110 (0, 0))) := (hb2.block _ (by simp; omega)).trans ((Below.heap_alloc w1 _ _ hlt1).trans hg1.out)
      go_wp2_with (first | ((with_reducible refine store_lab rfl _ _ rfl w.heap.size zeroA zeroA ?_ ?_ hg2.out zeroA_size zeroA_size zeroA_one w.heap.size (Nat.le_refl _) ?_); exact rfl; exact rfl; intro w3 hg3 hb3; have hB3 := hB2.trans hb3))
      exact bodyPost_ret (results_lab rfl _ _ w.heap.size _ _ rfl rfl hg3 zeroA_size) rfl ⟨rfl, hB3⟩
    · obtain ⟨_, _, hl, hA⟩ := labB_yes hL
      have HA := Lib.hid hA
      have HL := Lib.hid hl
      clear hL hl hA
      simp only [if_true]
      have hsz := labL_size n xs (by have := HL.out; have := (Pr.cnt_le n (by omega)).1; omega)
      go_enter Try.func125, Try.ntmps125
      go_wp2_with (with_reducible refine alloc_lab rfl rfl ?_)
      refine (meshOf_yes n (by omega) (by omega) _).mono ?_
      rintro e w1 ⟨rfl, hb1⟩
      have hg1 : Hid (w1.heap[w.heap.size]? = some (.cells zeroA 110 (0, 0))) := (hb1.block _ (by simp)).trans (heap_alloc_new _ _)
      have hB0 := bnext (balloc (Below.refl w.heap.size w) (.cells zeroA 110)) hb1
      have hlt1 : w.heap.size < w1.heap.size := by have := hb1.size; simp at this; omega
      have hB1 := balloc hB0 (.cells #[.int .i64 n] 48)
      have hz1 := hB1.size
      have hbb : len = 0 ∨ b < (w1.alloc (.cells #[.int .i64 n] 48)).heap.size := by
        rcases hb0 with h | h
        · exact .inl h
        · exact .inr (by omega)
      go_wp2_with fail
      refine (withLabels_yes n xs a b 0 len cap (by omega) (by omega) _ HN.out (HRD.out _ hB1) hbb (by rw [← HN.out]; exact HL.out) HA.out).mono ?_
      rintro e w2 ⟨rfl, hb2⟩
      have hB2 := bnext hB1 hb2
      have hg2 : Hid (w2.heap[w.heap.size]? = some (.cells zeroA 110 (0, 0))) := (hb2.block _ (by simp; omega)).trans ((Below.heap_alloc w1 _ _ hlt1).trans hg1.out)
      go_wp2_with (first | ((with_reducible refine store_lab rfl _ _ rfl w.heap.size (labL n xs).toArray zeroA ?_ ?_ hg2.out zeroA_size hsz (labL_one _ _) w.heap.size (Nat.le_refl _) ?_); exact rfl; exact rfl; intro w3 hg3 hb3; have hB3 := hB2.trans hb3))
      exact bodyPost_ret (results_lab rfl _ _ w.heap.size _ _ rfl rfl hg3 hsz) rfl ⟨rfl, hB3⟩
  · have hlb : labB n xs = false := labB_side hs
    rw [hlb]
    simp only [Bool.false_eq_true, if_false]
    have HS := Lib.hid hs
    clear h hs hlb
    go_enter Try.func125, Try.ntmps125
    go_wp2_with (with_reducible refine alloc_lab rfl rfl ?_)
    refine (meshOf_no n HS.out _).mono ?_
    rintro e w1 ⟨rfl, hb1⟩
    have hg1 : Hid (w1.heap[w.heap.size]? = some (.cells zeroA 110 (0, 0))) := (hb1.block _ (by simp)).trans (heap_alloc_new _ _)
    have hB0 := bnext (balloc (Below.refl w.heap.size w) (.cells zeroA 110)) hb1
    have hlt1 : w.heap.size < w1.heap.size := by have := hb1.size; simp at this; omega
    have hB1 := balloc hB0 (.cells #[.int .i64 n] 48)
    have hg2 : Hid ((w1.alloc (.cells #[.int .i64 n] 48)).heap[w.heap.size]? = some (.cells zeroA 110 (0, 0))) := (Below.heap_alloc w1 _ _ hlt1).trans hg1.out
    go_wp2_with (first | (with_reducible refine build0_lab rfl rfl ?_) | ((with_reducible refine store_lab rfl _ _ rfl w.heap.size zeroA zeroA ?_ ?_ hg2.out zeroA_size zeroA_size zeroA_one w.heap.size (Nat.le_refl _) ?_); exact rfl; exact rfl; intro w3 hg3 hb3; have hB3 := hB1.trans hb3))
    exact bodyPost_ret (results_lab rfl _ _ w.heap.size _ _ rfl rfl hg3 zeroA_size) rfl ⟨rfl, hB3⟩
end Go.Proofs.Ytelchpdlfedleaa
