import Derived.Test.YthkohenobbhhmaaZa
import Derived.Test.YthkohenobbhhmaaZb
import Derived.Deep.MidRow
import Derived.Laws.CopyOwn
import Derived.Laws.CopyRow
namespace Go.Proofs.Ythkohenobbhhmaa
open Go.RowKit
set_option maxRecDepth 4000
/-- Labels as the program keeps them: the side, the labels, noughts. -/
def labL (n : Nat) (xs : List Int) : List Value := .int .i64 n :: (xs.map (Value.int .i64) ++ List.replicate (45 - xs.length) (.int .i64 0))
theorem labL_len (n : Nat) (xs : List Int) (h : xs.length ≤ 45) : (labL n xs).length = 46 := by simp [labL]; omega
def zeroA : Array Value := (List.replicate 46 (Value.int .i64 0)).toArray
def lab0 (n : Int) : Array Value := (Value.int .i64 n :: List.replicate 45 (Value.int .i64 0)).toArray
theorem zeroA_size : zeroA.size = 46 := by simp [zeroA]
theorem lab0_size (n : Int) : (lab0 n).size = 46 := by simp [lab0]
theorem zeroA_one : zeroA.all (·.oneCell') = true := by decide +kernel
theorem lab0_one (n : Int) : (lab0 n).all (·.oneCell') = true := by
  simp only [lab0, List.all_toArray, List.all_cons, List.all_replicate]; rfl
theorem labSize : (Try.prog.info? 48).map (·.size) = some 46 := by kernel_rfl
theorem run_alloc_lab (w : World) : (Instr.alloc 48 true (.tuple #[])).run Try.prog w = .ok (.pointer (some ⟨w.heap.size, 0, none⟩)) (w.alloc (.cells zeroA 48)) := by kernel_rfl
section
variable {ops : Array Oper} {rest : List Oper} {o : Oper} {a : Act} {w : World} {Q : Exit → Act → World → Prop}
theorem alloc_lab (hgd : o.guard = none) (ho : o.op = .alloc 48)
    (h : wpList Try.prog ops Q rest (a.put o.dst (.pointer (some ⟨w.heap.size, 0, none⟩))) (w.alloc (.cells zeroA 48))) : wpList Try.prog ops Q (o :: rest) a w := by
  refine wpList_plain hgd fun K hK => ?_
  unfold Oper.wp
  simp [execOp, ho, run_alloc_lab, Result.andThen]
  exact hK _ _ h
theorem run_build0 (w : World) : (Instr.build 48 #[]).run Try.prog w = .ok (.agg zeroA) w := by kernel_rfl
theorem run_buildn (n : Int) (w : World) : (Instr.build 48 #[(0, .agg #[.int .i64 n])]).run Try.prog w = .ok (.agg (lab0 n)) w := by kernel_rfl
theorem build0_lab (hgd : o.guard = none) (ho : o.op = .build 48 #[])
    (h : wpList Try.prog ops Q rest (a.put o.dst (.agg zeroA)) w) : wpList Try.prog ops Q (o :: rest) a w := by
  refine wpList_plain hgd fun K hK => ?_
  unfold Oper.wp
  simp [execOp, ho, run_build0, Result.andThen]
  exact hK _ _ h
theorem buildn_lab (hgd : o.guard = none) (x : Operand) (n : Int) (ho : o.op = .build 48 #[(0, x)]) (hx : a.eval x = .agg #[.int .i64 n])
    (h : wpList Try.prog ops Q rest (a.put o.dst (.agg (lab0 n))) w) : wpList Try.prog ops Q (o :: rest) a w := by
  refine wpList_plain hgd fun K hK => ?_
  unfold Oper.wp
  simp [execOp, ho, hx, run_buildn, Result.andThen]
  exact hK _ _ h
/-- A whole store into a block of the call's own. -/
theorem store_lab (hgd : o.guard = none) (x y : Operand) (ho : o.op = .store 48 x y) (g : Nat) (cells old : Array Value) (hx : a.eval x = .pointer (some ⟨g, 0, none⟩)) (hy : a.eval y = .agg cells)
    (hg : w.heap[g]? = some (.cells old 48 (0, 0))) (hold : old.size = 46) (hc : cells.size = 46) (h1 : cells.all (·.oneCell') = true) (B : Nat) (hB : B ≤ g)
    (h : ∀ w', w'.heap[g]? = some (.cells cells 48 (0, 0)) → Below B w w' → wpList Try.prog ops Q rest (a.put o.dst undef) w') : wpList Try.prog ops Q (o :: rest) a w := by
  refine wpList_store_row hgd _ x y ho g cells hx hy _ old hg (by rw [labSize, hc]) (by omega) h1 ?_
  exact h _ (setRow_heap w g old cells _ _ hg) (below_setRow (Below.refl _ _) hB _)
theorem load_lab (hgd : o.guard = none) (x : Operand) (ho : o.op = .load 48 x) (g : Nat) (hx : a.eval x = .pointer (some ⟨g, 0, none⟩)) (cs : Array Value) (hg : w.heap[g]? = some (.cells cs 48 (0, 0))) (hc : cs.size = 46)
    (h : wpList Try.prog ops Q rest (a.put o.dst (.agg cs)) w) : wpList Try.prog ops Q (o :: rest) a w :=
  wpList_load_row hgd _ x ho g hx _ cs (0, 0) _ hg Try.underlying48 rfl (by rw [labSize, hc]) h
end
end Go.Proofs.Ythkohenobbhhmaa

namespace Go.Proofs.Ythkohenobbhhmaa
open Go.RowKit
set_option maxRecDepth 4000
theorem splice_lab (n : Nat) (xs : List Int) : splice (lab0 n).toList 1 (xs.map (Value.int .i64)) = labL n xs := by
  simp only [splice, lab0, labL, List.take_succ_cons, List.take_zero, List.length_map, List.toList_toArray, List.cons_append, List.nil_append]
  congr 1
  rw [show 1 + xs.length = xs.length + 1 by omega, List.drop_succ_cons, List.drop_replicate]
theorem labL_one (n : Nat) (xs : List Int) : (labL n xs).toArray.all (·.oneCell') = true := by
  simp only [labL, List.all_toArray, List.all_cons, List.all_append, List.all_map, List.all_replicate, Bool.and_eq_true]
  refine ⟨rfl, ?_, ?_⟩
  · simp only [List.all_eq_true]; intro x _; rfl
  · split <;> rfl
theorem labL_size (n : Nat) (xs : List Int) (h : xs.length ≤ 45) : (labL n xs).toArray.size = 46 := by rw [List.size_toArray]; exact labL_len n xs h
theorem copy_lab {ops : Array Oper} {rest : List Oper} {o : Oper} {a : Act} {w : World} {Q : Exit → Act → World → Prop} (hgd : o.guard = none) (d s : Operand)
    (ho : o.op = .call { callee := .builtin .copy, args := #[d, s], argTypes := #[22, 22] }) (g n : Nat) (xs : List Int) (ad : Option Addr) (b off len cap : Nat)
    (hd : a.eval d = .slice (some ⟨g, 1, none⟩) 45 45) (hs : a.eval s = .slice ad len cap) (hg : w.heap[g]? = some (.cells (lab0 n) 48 (0, 0))) (hr : Rd w ad b off xs) (hn : xs.length = len) (hl : len ≤ 45) (B : Nat) (hB : B ≤ g)
    (h : ∀ w', w'.heap[g]? = some (.cells (labL n xs).toArray 48 (0, 0)) → Below B w w' → wpList Try.prog ops Q rest (a.put o.dst (goInt (xs.map (Value.int .i64)).length)) w') : wpList Try.prog ops Q (o :: rest) a w := by
  refine wpList_copy_splice hgd d s 22 22 ho 3 Try.underlying22 (by kernel_rfl) (some ⟨g, 1, none⟩) ad 45 45 len cap hd hs g 1 (lab0 n).toList 48 (by simpa using hg) (xs.map (Value.int .i64)) ?_ ?_ ?_ (ints_oneCell _ _) B w (Below.refl _ _) hB ?_
  · rw [List.length_map, hn]; simp [Nat.min_def]; omega
  · intro hp
    refine ⟨rfl, ⟨b, off, none⟩, ?_, ?_⟩
    · exact (hr.2 0 (by simpa using hp)).1
    · intro j v hv
      have hj : j < xs.length := by have := (List.getElem?_eq_some_iff.1 hv).1; simpa using this
      rw [Addr.add_lit, (hr.2 j hj).2]
      simp [List.getD, hj] at hv ⊢
      exact hv
  · rw [List.length_map, hn]; simp [lab0]; omega
  · intro w' hw hb
    refine h w' ?_ hb
    have := hw.out
    rwa [splice_lab] at this
theorem results_lab {fn : Func} {p q : Tmp} (h : fn.results = #[.cell p 48, .tmp q]) (tmps : Array Value) (w : World) (g : Nat) (cs : Array Value) (v : Value)
    (hp : tmps.getD p undef = .pointer (some ⟨g, 0, none⟩)) (hq : tmps.getD q undef = v) (hg : w.heap[g]? = some (.cells cs 48 (0, 0))) (hc : cs.size = 46) :
    (results fn tmps).run Try.prog w = .ok (.tuple #[.agg cs, v]) w := by
  have hp' : tmps[p]?.getD undef = .pointer (some ⟨g, 0, none⟩) := by simpa using hp
  have hq' : tmps[q]?.getD undef = v := by simpa using hq
  have hload := run_loadVar_row (P := Try.prog) w g 48 48 cs (0, 0) _ hg Try.underlying48 rfl (by rw [labSize, hc])
  simp [results, h, hp', hq', asAddr, hload]
set_option maxHeartbeats 1000000 in
theorem withLabels_yes (n : Nat) (xs : List Int) (a : Option Addr) (b off len cap : Nat) (h1 : 1 ≤ n) (h2 : n ≤ 8) (w : World) (hn : xs.length = len) (h : Rd w a b off xs) (hb0 : len = 0 ∨ b < w.heap.size)
    (hl : len = Pr.cnt n) (hA : allB 0 2 xs = true) :
    Calls Try.prog 94 #[.agg #[.int .i64 n], .slice a len cap] w fun e w' => e = .returned (.tuple #[.agg (labL n xs).toArray, .bool true]) ∧ Below w.heap.size w w' := by
  have hc := (Pr.cnt_le n (by omega)).1
  have hbl : b < w.heap.size ∨ len = 0 := by omega
  have HR := Lib.hid h
  have HN := Lib.hid hn
  have HA := Lib.hid hA
  have hne : ((len : Int) != (Pr.cnt n : Nat)) = false := by rw [hl]; simp
  have HL := Lib.hid hl
  have hlb : len ≤ 45 := by omega
  clear h hn hA hl hb0
  go_enter Try.func94, Try.ntmps94
  go_wp2_with (with_reducible refine alloc_lab rfl rfl ?_)
  refine (size_any n h2 _).mono ?_
  rintro e w1 ⟨rfl, hb1⟩
  have hB1 : Below w.heap.size w w1 := Below.trans (by go_grown) (hb1.mono (by simp; omega))
  have HRD : Hid (∀ W, Below w.heap.size w W → Rd W a b off xs) := by
    intro W hB
    refine ⟨HR.out.1, fun j hj => ⟨(HR.out.2 j hj).1, ?_⟩⟩
    rcases hbl with h | h
    · exact (hB.cell h).trans (HR.out.2 j hj).2
    · rw [HN.out, h] at hj; exact absurd hj (Nat.not_lt_zero _)
  have HR1 := Lib.hid (HRD.out _ hB1)
  have hm1 : w1.cell? ⟨w.heap.size, 0, none⟩ = some (.int .i64 n) := (hb1.cell (by simp; omega)).trans (by go_simp)
  have hres : w1.heap[w.heap.size + 1]? = some (.cells zeroA 48 (0, 0)) := by
    have hnew : ∀ (o : Obj), ((w.alloc (.cells #[.int .i64 n] 45)).alloc o).heap[w.heap.size + 1]? = some o := fun o => by
      have := heap_alloc_new (w.alloc (.cells #[.int .i64 n] 45)) o
      rwa [World.size_alloc] at this
    exact (hb1.block _ (by simp)).trans (hnew _)
  have hz1 := hb1.size
  simp only [World.size_alloc] at hz1
  have HRES := Lib.hid hres
  have HM1 := Lib.hid hm1
  clear hb1 hres hm1
  have hmx : len ≤ 9223372036854775807 := by omega
  go_wp2_with fail
  go_loop [17] (fun v17 => ∃ k : Nat, k ≤ len ∧ v17 = .int .i64 k) (fun v17 => len - (intOf v17).toNat)
  case atStart => exact ⟨0, Nat.zero_le _, rfl⟩
  case round =>
    obtain ⟨k, hk, rfl⟩ := hrel
    by_cases hlt : k < len
    · obtain ⟨ha, c⟩ := HR1.out.2 k (by rw [HN.out]; exact hlt)
      obtain ⟨l0, l2⟩ := allB_at HA.out k (by rw [HN.out]; exact hlt)
      subst ha
      generalize xs.getD k 0 = x at *
      go_wp2_with fail
      go_round
      case rel => exact ⟨k + 1, by omega, by go_num⟩
      case measure => simp [intOf]; omega
    · have hm := HM1.out
      have hk2 : len = k := by omega
      subst hk2
      have hlt1 : w.heap.size + 1 < w1.heap.size := by omega
      have hsz := labL_size n xs (by have := HN.out; omega)
      go_wp2_with (first | ((with_reducible refine buildn_lab rfl _ n rfl ?_ ?_); exact rfl) | (with_reducible refine alloc_lab rfl rfl ?_) | ((with_reducible refine store_lab rfl _ _ rfl w1.heap.size (lab0 n) zeroA ?_ ?_ ?_ zeroA_size (lab0_size _) (lab0_one _) w1.heap.size (Nat.le_refl _) ?_); exact rfl; exact rfl; exact heap_alloc_new _ _; intro w2 hg2 hb2; have hB2 := (balloc hB1 (.cells zeroA 48)).trans (hb2.mono hB1.size); have hR2 := Lib.hid (HRD.out _ hB2); have hres2 := Lib.hid ((hb2.block _ hlt1).trans ((Below.heap_alloc w1 _ _ hlt1).trans HRES.out))) | ((with_reducible refine copy_lab rfl _ _ rfl w1.heap.size n xs a b off len cap ?_ ?_ hg2 hR2.out HN.out hlb w1.heap.size (Nat.le_refl _) ?_); exact rfl; exact rfl; intro w3 hg3 hb3; have hB3 := hB2.trans (hb3.mono hB1.size); have hres3 := Lib.hid ((hb3.block _ hlt1).trans hres2.out)) | ((with_reducible refine load_lab rfl _ rfl w1.heap.size ?_ (labL n xs).toArray hg3 hsz ?_); exact rfl) | ((with_reducible refine store_lab rfl _ _ rfl (w.heap.size + 1) (labL n xs).toArray zeroA ?_ ?_ hres3.out zeroA_size hsz (labL_one _ _) (w.heap.size + 1) (Nat.le_refl _) ?_); exact rfl; exact rfl; intro w4 hg4 hb4; have hB4 := hB3.trans (hb4.mono (Nat.le_succ _))))
      exact bodyPost_ret (results_lab rfl _ _ (w.heap.size + 1) _ _ rfl rfl hg4 hsz) rfl ⟨rfl, hB4⟩
set_option maxHeartbeats 1000000 in
theorem withLabels_no (n : Nat) (xs : List Int) (a : Option Addr) (b off len cap : Nat) (h1 : 1 ≤ n) (h2 : n ≤ 8) (w : World) (hn : xs.length = len) (h : Rd w a b off xs) (hb0 : len = 0 ∨ b < w.heap.size)
    (hno : ¬ (len = Pr.cnt n ∧ allB 0 2 xs = true)) (hmax : len ≤ 1048576) :
    Calls Try.prog 94 #[.agg #[.int .i64 n], .slice a len cap] w fun e w' => e = .returned (.tuple #[.agg zeroA, .bool false]) ∧ Below w.heap.size w w' := by
  have hc := (Pr.cnt_le n (by omega)).1
  have hbl : b < w.heap.size ∨ len = 0 := by omega
  have HR := Lib.hid h
  have HN := Lib.hid hn
  have HNO := Lib.hid hno
  have hbl2 : len ≤ 9223372036854775807 := by omega
  clear h hn hno hb0
  go_enter Try.func94, Try.ntmps94
  go_wp2_with (with_reducible refine alloc_lab rfl rfl ?_)
  refine (size_any n h2 _).mono ?_
  rintro e w1 ⟨rfl, hb1⟩
  have hB1 : Below w.heap.size w w1 := Below.trans (by go_grown) (hb1.mono (by simp; omega))
  have HRD : Hid (∀ W, Below w.heap.size w W → Rd W a b off xs) := by
    intro W hB
    refine ⟨HR.out.1, fun j hj => ⟨(HR.out.2 j hj).1, ?_⟩⟩
    rcases hbl with h | h
    · exact (hB.cell h).trans (HR.out.2 j hj).2
    · rw [HN.out, h] at hj; exact absurd hj (Nat.not_lt_zero _)
  have HR1 := Lib.hid (HRD.out _ hB1)
  have hm1 : w1.cell? ⟨w.heap.size, 0, none⟩ = some (.int .i64 n) := (hb1.cell (by simp; omega)).trans (by go_simp)
  have hres : w1.heap[w.heap.size + 1]? = some (.cells zeroA 48 (0, 0)) := by
    have hnew : ∀ (o : Obj), ((w.alloc (.cells #[.int .i64 n] 45)).alloc o).heap[w.heap.size + 1]? = some o := fun o => by
      have := heap_alloc_new (w.alloc (.cells #[.int .i64 n] 45)) o
      rwa [World.size_alloc] at this
    exact (hb1.block _ (by simp)).trans (hnew _)
  have hz1 := hb1.size
  simp only [World.size_alloc] at hz1
  have HRES := Lib.hid hres
  have HM1 := Lib.hid hm1
  clear hb1 hres hm1
  by_cases hl : len = Pr.cnt n
  · have hne : ((len : Int) != (Pr.cnt n : Nat)) = false := by rw [hl]; simp
    have HL := Lib.hid hl
    clear hl
    go_wp2_with fail
    go_loop [17] (fun v17 => ∃ k : Nat, k ≤ len ∧ v17 = .int .i64 k ∧ ∀ j, j < k → 0 ≤ xs.getD j 0 ∧ xs.getD j 0 ≤ 2) (fun v17 => len - (intOf v17).toNat)
    case atStart => exact ⟨0, Nat.zero_le _, rfl, by omega⟩
    case round =>
      obtain ⟨k, hk, rfl, hall⟩ := hrel
      have HALL := Lib.hid hall
      clear hall
      by_cases hlt : k < len
      · obtain ⟨ha, c⟩ := HR1.out.2 k (by rw [HN.out]; exact hlt)
        subst ha
        by_cases hx : 0 ≤ xs.getD k 0 ∧ xs.getD k 0 ≤ 2
        · have HX := Lib.hid hx
          obtain ⟨l0, l2⟩ := hx
          generalize hxe : xs.getD k 0 = x at *
          have HXE := Lib.hid hxe
          clear hxe
          go_wp2_with fail
          go_round
          case rel =>
            refine ⟨k + 1, by omega, by go_num, fun j hj => ?_⟩
            by_cases hjk : j < k
            · exact HALL.out j hjk
            · obtain rfl : j = k := by omega
              rw [HXE.out]; exact HX.out
          case measure => simp [intOf]; omega
        · by_cases l0 : 0 ≤ xs.getD k 0
          · have l2 : ¬ xs.getD k 0 ≤ 2 := fun l2 => hx ⟨l0, l2⟩
            clear hx HALL
            generalize xs.getD k 0 = x at *
            go_wp2_with (first | ((with_reducible refine build0_lab rfl rfl ?_)) | ((with_reducible refine store_lab rfl _ _ rfl (w.heap.size + 1) zeroA zeroA ?_ ?_ HRES.out zeroA_size zeroA_size zeroA_one (w.heap.size + 1) (Nat.le_refl _) ?_); exact rfl; exact rfl; intro w4 hg4 hb4; have hB4 := hB1.trans (hb4.mono (Nat.le_succ _))))
            exact bodyPost_ret (results_lab rfl _ _ (w.heap.size + 1) _ _ rfl rfl hg4 zeroA_size) rfl ⟨rfl, hB4⟩
          · clear hx HALL
            generalize xs.getD k 0 = x at *
            go_wp2_with (first | ((with_reducible refine build0_lab rfl rfl ?_)) | ((with_reducible refine store_lab rfl _ _ rfl (w.heap.size + 1) zeroA zeroA ?_ ?_ HRES.out zeroA_size zeroA_size zeroA_one (w.heap.size + 1) (Nat.le_refl _) ?_); exact rfl; exact rfl; intro w4 hg4 hb4; have hB4 := hB1.trans (hb4.mono (Nat.le_succ _))))
            exact bodyPost_ret (results_lab rfl _ _ (w.heap.size + 1) _ _ rfl rfl hg4 zeroA_size) rfl ⟨rfl, hB4⟩
      · exfalso
        have hk2 : xs.length = k := by rw [HN.out]; omega
        exact HNO.out ⟨HL.out, allB_yes 0 2 xs (by rw [hk2]; exact HALL.out)⟩
  · have hne : ((len : Int) != (Pr.cnt n : Nat)) = true := by simp; omega
    clear hl
    go_wp2_with (first | ((with_reducible refine build0_lab rfl rfl ?_)) | ((with_reducible refine store_lab rfl _ _ rfl (w.heap.size + 1) zeroA zeroA ?_ ?_ HRES.out zeroA_size zeroA_size zeroA_one (w.heap.size + 1) (Nat.le_refl _) ?_); exact rfl; exact rfl; intro w4 hg4 hb4; have hB4 := hB1.trans (hb4.mono (Nat.le_succ _))))
    exact bodyPost_ret (results_lab rfl _ _ (w.heap.size + 1) _ _ rfl rfl hg4 zeroA_size) rfl ⟨rfl, hB4⟩
end Go.Proofs.Ythkohenobbhhmaa

namespace Go.Proofs.Ythkohenobbhhmaa
open Go.RowKit
set_option maxRecDepth 4000
/-- The list is labels for the side. -/
def labB (n : Int) (xs : List Int) : Bool := decide (1 ≤ n ∧ n ≤ 8 ∧ xs.length = Pr.cnt n.toNat ∧ allB 0 2 xs = true)
theorem labB_yes {n : Nat} {xs : List Int} (h : labB n xs = true) : 1 ≤ n ∧ n ≤ 8 ∧ xs.length = Pr.cnt n ∧ allB 0 2 xs = true := by
  simp only [labB, decide_eq_true_eq, Int.toNat_natCast] at h
  exact ⟨by omega, by omega, h.2.2⟩
theorem labB_no {n : Nat} {xs : List Int} (h1 : 1 ≤ n) (h2 : n ≤ 8) (h : labB n xs = false) : ¬ (xs.length = Pr.cnt n ∧ allB 0 2 xs = true) := by
  simp only [labB, decide_eq_false_iff_not, Int.toNat_natCast] at h
  exact fun hh => h ⟨by omega, by omega, hh⟩
set_option maxHeartbeats 800000 in
theorem meLabels_any (n : Int) (xs : List Int) (a : Option Addr) (b off len cap : Nat) (w : World) (hn : xs.length = len) (h : Rd w a b off xs) :
    Calls Try.prog 40 #[.int .i64 n, .slice a len cap] w fun e w' => e = .returned (.bool (labB n xs)) ∧ w = w' := by
  by_cases hs : 1 ≤ n ∧ n ≤ 8
  · obtain ⟨h1, h2⟩ := hs
    obtain ⟨n, rfl⟩ := Int.eq_ofNat_of_zero_le (show 0 ≤ n by omega)
    have hc := (Pr.cnt_le n (by omega)).1
    by_cases hl : len = Pr.cnt n
    · have hq : ((len : Int) == (Pr.cnt n : Nat)) = true := by rw [hl]; simp
      have hres : labB n xs = allB 0 2 xs := by
        rw [Bool.eq_iff_iff]; simp only [labB, decide_eq_true_eq, Int.toNat_natCast]
        exact ⟨fun h => h.2.2.2, fun h => ⟨h1, h2, by rw [hn, hl], h⟩⟩
      rw [hres]
      have HA := Lib.hid (l1All_any xs a b off len cap 0 2 w hn h)
      clear h hl hres hn
      go_enter Try.func40, Try.ntmps40
      go_wp2_with fail
      refine (meSide_yes n (by omega) (by omega) _).mono ?_
      rintro e w' ⟨rfl, rfl⟩
      go_wp2_with fail
      refine (meCount_any n (by omega) _).mono ?_
      rintro e w' ⟨rfl, rfl⟩
      go_wp2_with fail
      refine HA.out.mono ?_
      rintro e w' ⟨rfl, rfl⟩
      go_wp2_with fail
      go_ret
      exact ⟨rfl, rfl⟩
    · have hq : ((len : Int) == (Pr.cnt n : Nat)) = false := by simp; omega
      have hres : labB n xs = false := by
        simp only [labB, decide_eq_false_iff_not, Int.toNat_natCast]
        exact fun h => hl (by rw [← hn]; exact h.2.2.1)
      rw [hres]
      clear h hl hres hn
      go_enter Try.func40, Try.ntmps40
      go_wp2_with fail
      refine (meSide_yes n (by omega) (by omega) _).mono ?_
      rintro e w' ⟨rfl, rfl⟩
      go_wp2_with fail
      refine (meCount_any n (by omega) _).mono ?_
      rintro e w' ⟨rfl, rfl⟩
      go_wp2_with fail
      go_ret
      exact ⟨rfl, rfl⟩
  · have hres : labB n xs = false := by
      simp only [labB, decide_eq_false_iff_not]
      exact fun h => hs ⟨h.1, h.2.1⟩
    rw [hres]
    have HS := Lib.hid hs
    clear h hs hres
    go_enter Try.func40, Try.ntmps40
    go_wp2_with fail
    refine (meSide_no n HS.out _).mono ?_
    rintro e w' ⟨rfl, rfl⟩
    go_wp2_with fail
    go_ret
    exact ⟨rfl, rfl⟩
end Go.Proofs.Ythkohenobbhhmaa

namespace Go.Proofs.Ythkohenobbhhmaa
open Go.RowKit
set_option maxRecDepth 4000
theorem labB_side {n : Int} {xs : List Int} (h : ¬ (1 ≤ n ∧ n ≤ 8)) : labB n xs = false := by
  simp only [labB, decide_eq_false_iff_not]
  exact fun hh => h ⟨hh.1, hh.2.1⟩
set_option maxHeartbeats 800000 in
theorem labelledOf_any (n : Int) (xs : List Int) (a : Option Addr) (b len cap : Nat) (w : World) (hn : xs.length = len) (hsm : len ≤ 1048576) (h : Rd w a b 0 xs) (hb0 : len = 0 ∨ b < w.heap.size) :
    Calls Try.prog 77 #[.int .i64 n, .slice a len cap] w fun e w' => e = .returned (.tuple #[.agg (if labB n xs then (labL n.toNat xs).toArray else zeroA), .bool (labB n xs)]) ∧ Below w.heap.size w w' := by
  by_cases hs : 1 ≤ n ∧ n ≤ 8
  · obtain ⟨h1, h2⟩ := hs
    obtain ⟨n, rfl⟩ := Int.eq_ofNat_of_zero_le (show 0 ≤ n by omega)
    have HRD : Hid (∀ W, Below w.heap.size w W → Rd W a b 0 xs) := by
      intro W hB
      refine ⟨h.1, fun j hj => ⟨(h.2 j hj).1, ?_⟩⟩
      rcases hb0 with h' | h'
      · rw [hn, h'] at hj; exact absurd hj (Nat.not_lt_zero _)
      · exact (hB.cell h').trans (h.2 j hj).2
    have HN := Lib.hid hn
    clear h hn
    rw [Int.toNat_natCast]
    cases hL : labB n xs
    · have HL := Lib.hid hL
      clear hL
      simp only [Bool.false_eq_true, if_false]
      go_enter Try.func77, Try.ntmps77
      go_wp2_with (with_reducible refine alloc_lab rfl rfl ?_)
      refine (meshOf_yes n (by omega) (by omega) _).mono ?_
      rintro e w1 ⟨rfl, hb1⟩
      have hg1 : Hid (w1.heap[w.heap.size]? = some (.cells zeroA 48 (0, 0))) := (hb1.block _ (by simp)).trans (heap_alloc_new _ _)
      have hB0 := bnext (balloc (Below.refl w.heap.size w) (.cells zeroA 48)) hb1
      have hlt1 : w.heap.size < w1.heap.size := by have := hb1.size; simp at this; omega
      have hB1 := balloc hB0 (.cells #[.int .i64 n] 45)
      have hz1 := hB1.size
      have hbb : len = 0 ∨ b < (w1.alloc (.cells #[.int .i64 n] 45)).heap.size := by
        rcases hb0 with h | h
        · exact .inl h
        · exact .inr (by omega)
      go_wp2_with fail
      refine (withLabels_no n xs a b 0 len cap (by omega) (by omega) _ HN.out (HRD.out _ hB1) hbb (by rw [← HN.out]; exact labB_no (by omega) (by omega) HL.out) hsm).mono ?_
      rintro e w2 ⟨rfl, hb2⟩
      have hB2 := bnext hB1 hb2
      have hg2 : Hid (w2.heap[w.heap.size]? = some (.cells zeroA 48 (0, 0))) := (hb2.block _ (by simp; omega)).trans ((Below.heap_alloc w1 _ _ hlt1).trans hg1.out)
      go_wp2_with (first | ((with_reducible refine store_lab rfl _ _ rfl w.heap.size zeroA zeroA ?_ ?_ hg2.out zeroA_size zeroA_size zeroA_one w.heap.size (Nat.le_refl _) ?_); exact rfl; exact rfl; intro w3 hg3 hb3; have hB3 := hB2.trans hb3))
      exact bodyPost_ret (results_lab rfl _ _ w.heap.size _ _ rfl rfl hg3 zeroA_size) rfl ⟨rfl, hB3⟩
    · obtain ⟨_, _, hl, hA⟩ := labB_yes hL
      have HA := Lib.hid hA
      have HL := Lib.hid hl
      clear hL hl hA
      simp only [if_true]
      have hsz := labL_size n xs (by have := HL.out; have := (Pr.cnt_le n (by omega)).1; omega)
      go_enter Try.func77, Try.ntmps77
      go_wp2_with (with_reducible refine alloc_lab rfl rfl ?_)
      refine (meshOf_yes n (by omega) (by omega) _).mono ?_
      rintro e w1 ⟨rfl, hb1⟩
      have hg1 : Hid (w1.heap[w.heap.size]? = some (.cells zeroA 48 (0, 0))) := (hb1.block _ (by simp)).trans (heap_alloc_new _ _)
      have hB0 := bnext (balloc (Below.refl w.heap.size w) (.cells zeroA 48)) hb1
      have hlt1 : w.heap.size < w1.heap.size := by have := hb1.size; simp at this; omega
      have hB1 := balloc hB0 (.cells #[.int .i64 n] 45)
      have hz1 := hB1.size
      have hbb : len = 0 ∨ b < (w1.alloc (.cells #[.int .i64 n] 45)).heap.size := by
        rcases hb0 with h | h
        · exact .inl h
        · exact .inr (by omega)
      go_wp2_with fail
      refine (withLabels_yes n xs a b 0 len cap (by omega) (by omega) _ HN.out (HRD.out _ hB1) hbb (by rw [← HN.out]; exact HL.out) HA.out).mono ?_
      rintro e w2 ⟨rfl, hb2⟩
      have hB2 := bnext hB1 hb2
      have hg2 : Hid (w2.heap[w.heap.size]? = some (.cells zeroA 48 (0, 0))) := (hb2.block _ (by simp; omega)).trans ((Below.heap_alloc w1 _ _ hlt1).trans hg1.out)
      go_wp2_with (first | ((with_reducible refine store_lab rfl _ _ rfl w.heap.size (labL n xs).toArray zeroA ?_ ?_ hg2.out zeroA_size hsz (labL_one _ _) w.heap.size (Nat.le_refl _) ?_); exact rfl; exact rfl; intro w3 hg3 hb3; have hB3 := hB2.trans hb3))
      exact bodyPost_ret (results_lab rfl _ _ w.heap.size _ _ rfl rfl hg3 hsz) rfl ⟨rfl, hB3⟩
  · have hlb : labB n xs = false := labB_side hs
    rw [hlb]
    simp only [Bool.false_eq_true, if_false]
    have HS := Lib.hid hs
    clear h hs hlb
    go_enter Try.func77, Try.ntmps77
    go_wp2_with (with_reducible refine alloc_lab rfl rfl ?_)
    refine (meshOf_no n HS.out _).mono ?_
    rintro e w1 ⟨rfl, hb1⟩
    have hg1 : Hid (w1.heap[w.heap.size]? = some (.cells zeroA 48 (0, 0))) := (hb1.block _ (by simp)).trans (heap_alloc_new _ _)
    have hB0 := bnext (balloc (Below.refl w.heap.size w) (.cells zeroA 48)) hb1
    have hlt1 : w.heap.size < w1.heap.size := by have := hb1.size; simp at this; omega
    have hB1 := balloc hB0 (.cells #[.int .i64 n] 45)
    have hg2 : Hid ((w1.alloc (.cells #[.int .i64 n] 45)).heap[w.heap.size]? = some (.cells zeroA 48 (0, 0))) := (Below.heap_alloc w1 _ _ hlt1).trans hg1.out
    go_wp2_with (first | (with_reducible refine build0_lab rfl rfl ?_) | ((with_reducible refine store_lab rfl _ _ rfl w.heap.size zeroA zeroA ?_ ?_ hg2.out zeroA_size zeroA_size zeroA_one w.heap.size (Nat.le_refl _) ?_); exact rfl; exact rfl; intro w3 hg3 hb3; have hB3 := hB1.trans hb3))
    exact bodyPost_ret (results_lab rfl _ _ w.heap.size _ _ rfl rfl hg3 zeroA_size) rfl ⟨rfl, hB3⟩
end Go.Proofs.Ythkohenobbhhmaa

namespace Go.Proofs.Ythkohenobbhhmaa
open Go.RowKit
set_option maxRecDepth 4000
/-- Rooms as the program keeps them: the labels, then the slice of the cells and the function that is asked for doors. -/
def rmA (cs : Array Value) (cv fv : Value) : Array Value := cs ++ #[cv, fv]
def zeroR : Array Value := rmA zeroA (.slice none 0 0) .nilFunc
theorem rmA_size (cs : Array Value) (cv fv : Value) (h : cs.size = 46) : (rmA cs cv fv).size = 48 := by simp [rmA, h]
theorem rmA_one (cs : Array Value) (cv fv : Value) (h : cs.all (·.oneCell') = true) (h1 : cv.oneCell' = true) (h2 : fv.oneCell' = true) : (rmA cs cv fv).all (·.oneCell') = true := by
  rw [rmA, Array.all_append, h]
  simp [h1, h2]
theorem zeroR_size : zeroR.size = 48 := rmA_size _ _ _ zeroA_size
theorem zeroR_one : zeroR.all (·.oneCell') = true := by decide +kernel
theorem rmSize : (Try.prog.info? 52).map (·.size) = some 48 := by kernel_rfl
theorem run_alloc_rm (w : World) : (Instr.alloc 52 true (.tuple #[])).run Try.prog w = .ok (.pointer (some ⟨w.heap.size, 0, none⟩)) (w.alloc (.cells zeroR 52)) := by kernel_rfl
theorem run_build0_rm (w : World) : (Instr.build 52 #[]).run Try.prog w = .ok (.agg zeroR) w := by kernel_rfl
theorem built_rm (cs : Array Value) (hc : cs.size = 46) (a : Option Addr) (n cap : Nat) (fn : Fn) (first caps : Array Value) :
    Try.prog.built 52 [(0, .agg cs), (1, .slice a n cap), (2, .func fn first caps)] = some (rmA cs (.slice a n cap) (.func fn first caps)) := by
  have e : cs = Array.ofFn (fun i : Fin 46 => cs.getD i undef) := by
    apply Array.ext
    · simp [hc]
    · intro i h1 h2; simp [Array.getD, h1]
  have H : ∀ c : Fin 46 → Value, Try.prog.built 52 [(0, .agg (Array.ofFn c)), (1, .slice a n cap), (2, .func fn first caps)] = some (rmA (Array.ofFn c) (.slice a n cap) (.func fn first caps)) := by
    intro c
    kernel_rfl
  rw [e]
  exact H _
section
variable {ops : Array Oper} {rest : List Oper} {o : Oper} {a : Act} {w : World} {Q : Exit → Act → World → Prop}
theorem alloc_rm (hgd : o.guard = none) (ho : o.op = .alloc 52)
    (h : wpList Try.prog ops Q rest (a.put o.dst (.pointer (some ⟨w.heap.size, 0, none⟩))) (w.alloc (.cells zeroR 52))) : wpList Try.prog ops Q (o :: rest) a w := by
  refine wpList_plain hgd fun K hK => ?_
  unfold Oper.wp
  simp [execOp, ho, run_alloc_rm, Result.andThen]
  exact hK _ _ h
theorem build0_rm (hgd : o.guard = none) (ho : o.op = .build 52 #[])
    (h : wpList Try.prog ops Q rest (a.put o.dst (.agg zeroR)) w) : wpList Try.prog ops Q (o :: rest) a w := by
  refine wpList_plain hgd fun K hK => ?_
  unfold Oper.wp
  simp [execOp, ho, run_build0_rm, Result.andThen]
  exact hK _ _ h
theorem store_rm (hgd : o.guard = none) (x y : Operand) (ho : o.op = .store 52 x y) (g : Nat) (cells old : Array Value) (hx : a.eval x = .pointer (some ⟨g, 0, none⟩)) (hy : a.eval y = .agg cells)
    (hg : w.heap[g]? = some (.cells old 52 (0, 0))) (hold : old.size = 48) (hc : cells.size = 48) (h1 : cells.all (·.oneCell') = true) (B : Nat) (hB : B ≤ g)
    (h : ∀ w', w'.heap[g]? = some (.cells cells 52 (0, 0)) → Below B w w' → wpList Try.prog ops Q rest (a.put o.dst undef) w') : wpList Try.prog ops Q (o :: rest) a w := by
  refine wpList_store_row hgd _ x y ho g cells hx hy _ old hg (by rw [rmSize, hc]) (by omega) h1 ?_
  exact h _ (setRow_heap w g old cells _ _ hg) (below_setRow (Below.refl _ _) hB _)
theorem load_rm (hgd : o.guard = none) (x : Operand) (ho : o.op = .load 52 x) (g : Nat) (hx : a.eval x = .pointer (some ⟨g, 0, none⟩)) (cs : Array Value) (hg : w.heap[g]? = some (.cells cs 52 (0, 0))) (hc : cs.size = 48)
    (h : wpList Try.prog ops Q rest (a.put o.dst (.agg cs)) w) : wpList Try.prog ops Q (o :: rest) a w :=
  wpList_load_row hgd _ x ho g hx _ cs (0, 0) _ hg Try.underlying52 rfl (by rw [rmSize, hc]) h
/-- A whole row read, in any world that a region comes to. -/
theorem quiet_row {C : World → Prop} {K : Act → Prop} (ty : TypeId) (x : Operand) (ho : o.op = .load ty x) (g : Nat) (hx : a.eval x = .pointer (some ⟨g, 0, none⟩)) (cs : Array Value)
    (hl : ∀ w, C w → (loadVar ty ⟨g, 0, none⟩).run Try.prog w = .ok (.agg cs) w) (h : K (a.put o.dst (.agg cs))) : o.quiet Try.prog a C K := by
  refine ⟨_, fun w hw => ?_, h⟩
  unfold Oper.quietAt execOp
  simp only [ho, hx, Instr.loadAt, Instr.sureAddr, Sem.run_bind, Sem.run_pure, Result.andThen_ok, hl w hw]
  exact ⟨rfl, rfl⟩
theorem quiet_rm {C : World → Prop} {K : Act → Prop} (x : Operand) (ho : o.op = .load 52 x) (g : Nat) (hx : a.eval x = .pointer (some ⟨g, 0, none⟩)) (cs : Array Value)
    (hg : ∀ w, C w → w.heap[g]? = some (.cells cs 52 (0, 0))) (hc : cs.size = 48) (h : K (a.put o.dst (.agg cs))) : o.quiet Try.prog a C K :=
  quiet_row _ x ho g hx cs (fun w hw => run_loadVar_row w g _ _ cs (0, 0) _ (hg w hw) Try.underlying52 rfl (by rw [rmSize, hc])) h
end
end Go.Proofs.Ythkohenobbhhmaa

namespace Go.Proofs.Ythkohenobbhhmaa
open Go.RowKit
set_option maxRecDepth 4000
/-- Blocks of a type of many cells, read, written and handed back whole. -/
structure Blk (ty : TypeId) (n : Nat) : Prop where
  und : (∃ fs, Try.prog.underlying ty = some (.struct fs)) ∨ ∃ k e, Try.prog.underlying ty = some (.array k e)
  size : (Try.prog.info? ty).map (·.size) = some n
section
variable {ops : Array Oper} {rest : List Oper} {o : Oper} {a : Act} {w : World} {Q : Exit → Act → World → Prop} {ty : TypeId} {n : Nat}
theorem load_blk (bk : Blk ty n) (hw : Region.wanted o (yielded ops a.tmps) = true) (x : Operand) (ho : o.op = .load ty x) (g : Nat) (hx : a.eval x = .pointer (some ⟨g, 0, none⟩)) (cs : Array Value) (hg : w.heap[g]? = some (.cells cs ty (0, 0))) (hc : cs.size = n)
    (h : wpList Try.prog ops Q rest (a.put o.dst (.agg cs)) w) : wpList Try.prog ops Q (o :: rest) a w := by
  exact wpList_step fun K hK => by
    rw [if_pos hw]
    rcases bk.und with ⟨_, hu⟩ | ⟨_, _, hu⟩ <;> exact wp_load_row _ x ho g hx _ cs (0, 0) _ hg hu rfl (by rw [bk.size, hc]) (hK _ _ h)
theorem store_blk (bk : Blk ty n) (hgd : o.guard = none) (x y : Operand) (ho : o.op = .store ty x y) (g : Nat) (cells old : Array Value) (hx : a.eval x = .pointer (some ⟨g, 0, none⟩)) (hy : a.eval y = .agg cells)
    (hg : w.heap[g]? = some (.cells old ty (0, 0))) (hold : old.size = n) (hc : cells.size = n) (h1 : cells.all (·.oneCell') = true) (B : Nat) (hB : B ≤ g)
    (h : ∀ w', w'.heap[g]? = some (.cells cells ty (0, 0)) → Below B w w' → (∀ k, k ≠ g → w'.heap[k]? = w.heap[k]?) → w'.heap.size = w.heap.size → wpList Try.prog ops Q rest (a.put o.dst undef) w') : wpList Try.prog ops Q (o :: rest) a w := by
  refine wpList_store_row hgd _ x y ho g cells hx hy _ old hg (by rw [bk.size, hc]) (by omega) h1 ?_
  exact h _ (setRow_heap w g old cells _ _ hg) (below_setRow (Below.refl _ _) hB _) (fun k hk => by
    simp only [World.setRow, Array.getElem?_modify]
    rw [if_neg (fun e => hk e.symm)]) (by simp [World.setRow])
theorem alloc_blk (cs : Array Value) (hr : ∀ w, (Instr.alloc ty true (.tuple #[])).run Try.prog w = .ok (.pointer (some ⟨w.heap.size, 0, none⟩)) (w.alloc (.cells cs ty))) (hgd : o.guard = none) (ho : o.op = .alloc ty)
    (h : wpList Try.prog ops Q rest (a.put o.dst (.pointer (some ⟨w.heap.size, 0, none⟩))) (w.alloc (.cells cs ty))) : wpList Try.prog ops Q (o :: rest) a w := by
  refine wpList_plain hgd fun K hK => ?_
  unfold Oper.wp
  simp [execOp, ho, hr, Result.andThen]
  exact hK _ _ h
theorem build_blk (cs : Array Value) (l : Array (Nat × Value)) (hr : ∀ w, (Instr.build ty l).run Try.prog w = .ok (.agg cs) w) (hgd : o.guard = none) (ps : Array (Nat × Operand)) (ho : o.op = .build ty ps) (hl : ps.map (fun p => (p.1, a.eval p.2)) = l)
    (h : wpList Try.prog ops Q rest (a.put o.dst (.agg cs)) w) : wpList Try.prog ops Q (o :: rest) a w := by
  refine wpList_plain hgd fun K hK => ?_
  unfold Oper.wp
  simp [execOp, ho, hl, hr, Result.andThen]
  exact hK _ _ h
end
theorem results_blk {ty : TypeId} {n : Nat} (bk : Blk ty n) {fn : Func} {p q : Tmp} (h : fn.results = #[.cell p ty, .tmp q]) (tmps : Array Value) (w : World) (g : Nat) (cs : Array Value) (v : Value)
    (hp : tmps.getD p undef = .pointer (some ⟨g, 0, none⟩)) (hq : tmps.getD q undef = v) (hg : w.heap[g]? = some (.cells cs ty (0, 0))) (hc : cs.size = n) :
    (results fn tmps).run Try.prog w = .ok (.tuple #[.agg cs, v]) w := by
  have hp' : tmps[p]?.getD undef = .pointer (some ⟨g, 0, none⟩) := by simpa using hp
  have hq' : tmps[q]?.getD undef = v := by simpa using hq
  have hload : (loadVar ty ⟨g, 0, none⟩).run Try.prog w = .ok (.agg cs) w := by
    rcases bk.und with ⟨_, hu⟩ | ⟨_, _, hu⟩ <;> exact run_loadVar_row (P := Try.prog) w g ty ty cs (0, 0) _ hg hu rfl (by rw [bk.size, hc])
  simp [results, h, hp', hq', asAddr, hload]
theorem results_blk1 {ty : TypeId} {n : Nat} (bk : Blk ty n) {fn : Func} {p : Tmp} (h : fn.results = #[.cell p ty]) (tmps : Array Value) (w : World) (g : Nat) (cs : Array Value)
    (hp : tmps.getD p undef = .pointer (some ⟨g, 0, none⟩)) (hg : w.heap[g]? = some (.cells cs ty (0, 0))) (hc : cs.size = n) :
    (results fn tmps).run Try.prog w = .ok (.agg cs) w := by
  rcases bk.und with ⟨_, hu⟩ | ⟨_, _, hu⟩ <;> exact results_cell_row h tmps w g ty cs (0, 0) _ hp hg hu rfl (by rw [bk.size, hc])
/-- A block's cells, and that they may be written. -/
theorem blk_cell {w : World} {g : Nat} {ty : TypeId} {cs : Array Value} (hg : w.heap[g]? = some (.cells cs ty (0, 0))) (k : Nat) (v : Value) (hk : cs[k]? = some v) : w.cell? ⟨g, k, none⟩ = some v := (cell_of_row _ _ _ _ _ (0, 0) hg).trans hk
theorem blkPair : Blk 54 2 := ⟨.inr ⟨_, _, Try.underlying54⟩, by kernel_rfl⟩
theorem pair_size (a b : Int) : (#[.int .i64 a, .int .i64 b] : Array Value).size = 2 := rfl
theorem pair_one (a b : Int) : (#[.int .i64 a, .int .i64 b] : Array Value).all (·.oneCell') = true := by simp [Value.oneCell']
theorem blkRooms : Blk 52 48 := ⟨.inl ⟨_, Try.underlying52⟩, by kernel_rfl⟩
end Go.Proofs.Ythkohenobbhhmaa

namespace Go.Proofs.Ythkohenobbhhmaa
open Go.RowKit
set_option maxRecDepth 4000
section
variable {ops : Array Oper} {rest : List Oper} {o : Oper} {a : Act} {w : World} {Q : Exit → Act → World → Prop} {ty t : TypeId} {n : Nat}
/-- Cells within a block of a longer type, read as one value. -/
theorem load_win (bk : Blk ty n) (hw : Region.wanted o (yielded ops a.tmps) = true) (x : Operand) (ho : o.op = .load ty x) (g off : Nat) (hx : a.eval x = .pointer (some ⟨g, off, none⟩)) (cs v : Array Value) (hg : w.heap[g]? = some (.cells cs t (0, 0)))
    (hv : ∀ j, j < n → cs[off + j]? = v[j]?) (hc : v.size = n) (h : wpList Try.prog ops Q rest (a.put o.dst (.agg v)) w) : wpList Try.prog ops Q (o :: rest) a w := by
  have hr : w.rangeAt g off v.toList := fun j u hj => by
    rw [cell_of_row _ _ _ _ _ (0, 0) hg]
    rw [Array.getElem?_toList] at hj
    rw [hv j (by have := (Array.getElem?_eq_some_iff.1 hj).1; omega)]
    exact hj
  exact wpList_step fun K hK => by
    rw [if_pos hw]
    rcases bk.und with ⟨_, hu⟩ | ⟨_, _, hu⟩ <;> exact wp_load_mid _ x ho g off hx v.toList _ hr hu rfl (by rw [bk.size]; simp [hc]) (hK _ _ (by simpa using h))
/-- What is written within a block, whole. -/
theorem store_win (hsz : (Try.prog.info? ty).map (·.size) = some n) (hgd : o.guard = none) (x y : Operand) (ho : o.op = .store ty x y) (g off : Nat) (v : Value) (old new : Array Value) (hx : a.eval x = .pointer (some ⟨g, off, none⟩)) (hy : a.eval y = v)
    (hg : w.heap[g]? = some (.cells old t (0, 0))) (hc : v.cells.size = n) (hfit : off + n ≤ old.size) (hnew : new = (old.toList.take off ++ v.cells.toList ++ old.toList.drop (off + n)).toArray) (h1 : ∀ u ∈ v.cells.toList, u.oneCell' = true) (B : Nat) (hB : B ≤ g)
    (h : ∀ w', w'.heap[g]? = some (.cells new t (0, 0)) → Below B w w' → (∀ k, k ≠ g → w'.heap[k]? = w.heap[k]?) → w'.heap.size = w.heap.size → wpList Try.prog ops Q rest (a.put o.dst undef) w') : wpList Try.prog ops Q (o :: rest) a w := by
  have hl : v.cells.toList.length = n := by simpa using hc
  have hst := run_storeCells_at (P := Try.prog) g off t v.cells.toList 0 old w hg (by omega) h1
  rw [Nat.add_zero, hl, ← hnew] at hst
  have hrun : (storeVar ty ⟨g, off, none⟩ v).run Try.prog w = .ok () (w.setRow g new) := by
    cases hq : Try.prog.info? ty with
    | none => simp [hq] at hsz
    | some i =>
      have hs : i.size = n := by simpa [hq] using hsz
      simp [storeVar, sizeOf, typeInfo, hq, hs, hc, hst]
  refine wpList_plain hgd fun K hK => ?_
  unfold Oper.wp execOp
  simp only [ho, hx, hy, Instr.storeAt, Instr.sureAddr, Sem.run_bind, Sem.run_pure, Result.andThen_ok, hrun]
  exact hK _ _ (h _ (setRow_heap w g old new _ _ hg) (below_setRow (Below.refl _ _) hB _) (fun k hk => by
    simp only [World.setRow, Array.getElem?_modify]
    rw [if_neg (fun e => hk e.symm)]) (by simp [World.setRow]))
end
end Go.Proofs.Ythkohenobbhhmaa

namespace Go.Proofs.Ythkohenobbhhmaa
open Go.RowKit
set_option maxRecDepth 4000
/-- The function that is asked for doors: it reads the labels in the block g. -/
def doorF (g : Nat) : Value := .func (.func 78) #[] #[.pointer (some ⟨g, 0, none⟩)]
/-- Rooms as they are in a world: labels, cells of the call's own, and the function with its block. -/
def RoomsV (w : World) (base n : Nat) (xs : List Int) (r : Array Value) : Prop :=
  ∃ g ca cc, r = rmA (labL n xs).toArray (.slice ca (ci n).length cc) (doorF g) ∧ TrioV w base (.slice ca (ci n).length cc) (ci n) ∧ w.heap[g]? = some (.cells (labL n xs).toArray 48 (0, 0)) ∧ base ≤ g ∧ g < w.heap.size
theorem rooms_now {w w' : World} {base n : Nat} {xs : List Int} {r : Array Value} (h : RoomsV w base n xs r) (hb : Below w.heap.size w w') : RoomsV w' base n xs r := by
  obtain ⟨g, ca, cc, h1, h2, h3, h4, h5⟩ := h
  exact ⟨g, ca, cc, h1, trio_now h2 hb, (hb.block g h5).trans h3, h4, Nat.lt_of_lt_of_le h5 hb.size⟩
section
variable {ops : Array Oper} {o : Oper} {a : Act} {w : World} {K : Act → World → Prop} {Q : Exit → Act → World → Prop} {E : Prop}
theorem step_load_lab (hgd : o.guard = none) (x : Operand) (ho : o.op = .load 48 x) (g : Nat) (hx : a.eval x = .pointer (some ⟨g, 0, none⟩)) (cs : Array Value) (hg : w.heap[g]? = some (.cells cs 48 (0, 0))) (hc : cs.size = 46)
    (h : K (a.put o.dst (.agg cs)) w) : if Region.wanted o (yielded ops a.tmps) = true then Oper.wp Try.prog o a w K Q else E := by
  have hw : Region.wanted o (yielded ops a.tmps) = true := by simp [Region.wanted, hgd]
  rw [if_pos hw]
  exact wp_load_row _ x ho g hx _ cs (0, 0) _ hg Try.underlying48 rfl (by rw [labSize, hc]) h
theorem step_build_rm (hgd : o.guard = none) (x y z : Operand) (ho : o.op = .build 52 #[(0, x), (1, y), (2, z)]) (cs : Array Value) (hc : cs.size = 46) (s : Option Addr) (n cap : Nat) (fn : Fn) (first caps : Array Value)
    (hx : a.eval x = .agg cs) (hy : a.eval y = .slice s n cap) (hz : a.eval z = .func fn first caps)
    (h : K (a.put o.dst (.agg (rmA cs (.slice s n cap) (.func fn first caps)))) w) : if Region.wanted o (yielded ops a.tmps) = true then Oper.wp Try.prog o a w K Q else E := by
  have hw : Region.wanted o (yielded ops a.tmps) = true := by simp [Region.wanted, hgd]
  rw [if_pos hw]
  unfold Oper.wp
  have hr := run_build (P := Try.prog) w 52 #[(0, .agg cs), (1, .slice s n cap), (2, .func fn first caps)] _ (built_rm cs hc s n cap fn first caps)
  simp [execOp, ho, hx, hy, hz, hr, Result.andThen]
  exact h
theorem exec_build_rm {o : Oper} {a : Act} {w : World} (x y z : Operand) (ho : o.op = .build 52 #[(0, x), (1, y), (2, z)]) (cs : Array Value) (hc : cs.size = 46) (s : Option Addr) (n cap : Nat) (fn : Fn) (first caps : Array Value)
    (hx : a.eval x = .agg cs) (hy : a.eval y = .slice s n cap) (hz : a.eval z = .func fn first caps) : (execOp a.eval o).run Try.prog w = .ok (.value (.agg (rmA cs (.slice s n cap) (.func fn first caps)))) w := by
  have hr := run_build (P := Try.prog) w 52 #[(0, .agg cs), (1, .slice s n cap), (2, .func fn first caps)] _ (built_rm cs hc s n cap fn first caps)
  simp [execOp, ho, hx, hy, hz, hr, Result.andThen]
theorem step_store_rm (hgd : o.guard = none) (x y : Operand) (ho : o.op = .store 52 x y) (g : Nat) (cells old : Array Value) (hx : a.eval x = .pointer (some ⟨g, 0, none⟩)) (hy : a.eval y = .agg cells)
    (hg : w.heap[g]? = some (.cells old 52 (0, 0))) (hold : old.size = 48) (hc : cells.size = 48) (h1 : cells.all (·.oneCell') = true) (B : Nat) (hB : B ≤ g)
    (h : ∀ w', w'.heap[g]? = some (.cells cells 52 (0, 0)) → Below B w w' → (∀ k, k ≠ g → w'.heap[k]? = w.heap[k]?) → K (a.put o.dst undef) w') : if Region.wanted o (yielded ops a.tmps) = true then Oper.wp Try.prog o a w K Q else E := by
  have hw : Region.wanted o (yielded ops a.tmps) = true := by simp [Region.wanted, hgd]
  rw [if_pos hw]
  refine wp_store_row _ x y ho g cells hx hy _ old hg (by rw [rmSize, hc]) (by omega) h1 ?_
  refine h _ (setRow_heap w g old cells _ _ hg) (below_setRow (Below.refl _ _) hB _) (fun k hk => ?_)
  simp only [World.setRow, Array.getElem?_modify]
  rw [if_neg (fun e => hk e.symm)]
end
theorem mix_store_rm {ops : Array Oper} {S : World → Prop} {Q : Exit → Act → World → Prop} {sole rest : List Nat} {a : Act} {w : World} (i : Nat) (o : Oper) (hi : sole.contains i = true) (ho : ops[i]? = some o) (hgd : o.guard = none) (x y : Operand) (hop : o.op = .store 52 x y) (d : Option Tmp) (hd : o.dst = d)
    (g : Nat) (cells old : Array Value) (hx : a.eval x = .pointer (some ⟨g, 0, none⟩)) (hy : a.eval y = .agg cells)
    (hg : w.heap[g]? = some (.cells old 52 (0, 0))) (hold : old.size = 48) (hc : cells.size = 48) (h1 : cells.all (·.oneCell') = true) (B : Nat) (hB : B ≤ g)
    (h : ∀ w', w'.heap[g]? = some (.cells cells 52 (0, 0)) → Below B w w' → (∀ k, k ≠ g → w'.heap[k]? = w.heap[k]?) → w'.heap.size = w.heap.size → S w' ∧ wpMix Try.prog ops S Q sole rest (a.put d undef) w') : wpMix Try.prog ops S Q sole (i :: rest) a w := by
  subst hd
  refine mix_sole i o hi ho (fun K' hK => ?_)
  rw [if_pos (by simp [Region.wanted, hgd])]
  refine wp_store_row _ x y hop g cells hx hy _ old hg (by rw [rmSize, hc]) (by omega) h1 ?_
  exact hK _ _ (h _ (setRow_heap w g old cells _ _ hg) (below_setRow (Below.refl _ _) hB _) (fun k hk => by
    simp only [World.setRow, Array.getElem?_modify]
    rw [if_neg (fun e => hk e.symm)]) (by simp [World.setRow]))
theorem results_rm {fn : Func} {p q : Tmp} (h : fn.results = #[.cell p 52, .tmp q]) (tmps : Array Value) (w : World) (g : Nat) (cs : Array Value) (v : Value)
    (hp : tmps.getD p undef = .pointer (some ⟨g, 0, none⟩)) (hq : tmps.getD q undef = v) (hg : w.heap[g]? = some (.cells cs 52 (0, 0))) (hc : cs.size = 48) :
    (results fn tmps).run Try.prog w = .ok (.tuple #[.agg cs, v]) w := by
  have hp' : tmps[p]?.getD undef = .pointer (some ⟨g, 0, none⟩) := by simpa using hp
  have hq' : tmps[q]?.getD undef = v := by simpa using hq
  have hload := run_loadVar_row (P := Try.prog) w g 52 52 cs (0, 0) _ hg Try.underlying52 rfl (by rw [rmSize, hc])
  simp [results, h, hp', hq', asAddr, hload]
end Go.Proofs.Ythkohenobbhhmaa

namespace Go.Proofs.Ythkohenobbhhmaa
open Go.RowKit
set_option maxRecDepth 4000
theorem ite_guard {c : Prop} [Decidable c] {a b : Prop} (h : if c then a else b) : if c then a else b := h
theorem Rd.later {w w' : World} {a : Option Addr} {b off len : Nat} {xs : List Int} (h : Rd w a b off xs) (hn : xs.length = len) (hb0 : len = 0 ∨ b < w.heap.size) (hb : Below w.heap.size w w') : Rd w' a b off xs :=
  ⟨h.1, fun j hj => ⟨(h.2 j hj).1, by
    rcases hb0 with h' | h'
    · rw [hn, h'] at hj; exact absurd hj (Nat.not_lt_zero _)
    · exact (hb.cell h').trans (h.2 j hj).2⟩⟩
theorem lt_later {w w' : World} {b len : Nat} (hb0 : len = 0 ∨ b < w.heap.size) (hb : Below w.heap.size w w') : len = 0 ∨ b < w'.heap.size := hb0.imp_right fun h => Nat.lt_of_lt_of_le h hb.size
set_option maxHeartbeats 1600000 in
theorem roomsOf_yes (n : Nat) (xs : List Int) (a : Option Addr) (b len cap : Nat) (w : World) (hn : xs.length = len) (hsm : len ≤ 1048576) (h : Rd w a b 0 xs) (hb0 : len = 0 ∨ b < w.heap.size) (hL : labB n xs = true) :
    Calls Try.prog 41 #[.int .i64 n, .slice a len cap] w fun e w' => ∃ r, e = .returned (.tuple #[.agg r, .bool true]) ∧ RoomsV w' w.heap.size n xs r ∧ Below w.heap.size w w' := by
  obtain ⟨h1, h2, hl, -⟩ := labB_yes hL
  have hcn := (Pr.cnt_le n (by omega)).1
  have hB0 := balloc (Below.refl w.heap.size w) (.cells zeroR 52)
  have hlab := labelledOf_any n xs a b len cap (w.alloc (.cells zeroR 52)) hn hsm (h.later hn hb0 hB0) (lt_later hb0 hB0)
  rw [hL] at hlab
  simp only [if_true, Int.toNat_natCast] at hlab
  have hsz := labL_size n xs (by omega)
  have hone := labL_one n xs
  have hat : (labL n xs).toArray[0]? = some (.int .i64 n) := by simp [labL]
  have hmf : ∀ (fn : Fn) (first cap : Array Value) (w : World), (Instr.makeFunc fn first cap).run Try.prog w = .ok (.func fn first cap) w := fun _ _ _ _ => rfl
  have HL := Lib.hid hlab
  clear hL hl hn h hb0 hlab
  generalize hcs : (labL n xs).toArray = cs at hsz hone hat HL
  have HCS := Lib.hid hcs
  clear hcs
  obtain ⟨g4, hg4⟩ : ∃ g, g = w.heap.size := ⟨_, rfl⟩
  go_enter Try.func41, Try.ntmps41
  go_wp2_with (with_reducible refine alloc_rm rfl rfl ?_)
  refine HL.out.mono ?_
  rintro e w1 ⟨rfl, hb1⟩
  have hr1 : Hid (w1.heap[w.heap.size]? = some (.cells zeroR 52 (0, 0))) := Lib.hid ((hb1.block _ (by simp)).trans (heap_alloc_new _ _))
  have hB1 := bnext hB0 hb1
  have hlt1 : w.heap.size < w1.heap.size := by have := hb1.size; simp at this; omega
  clear hb1 hB0
  go_wp2_with (first | (with_reducible refine alloc_lab rfl rfl ?_; have hg2 : Hid ((w1.alloc (.cells zeroA 48)).heap[w1.heap.size]? = some (.cells zeroA 48 (0, 0))) := Lib.hid (heap_alloc_new _ _)) | ((with_reducible refine store_lab rfl _ _ rfl w1.heap.size cs zeroA ?_ ?_ hg2.out zeroA_size hsz hone w1.heap.size (Nat.le_refl _) ?_); exact rfl; exact rfl; intro w3 hg3 hb3))
  have hB3 : Below w1.heap.size w1 w3 := (balloc (Below.refl w1.heap.size w1) (.cells zeroA 48)).trans hb3
  have hr3 : w3.heap[w.heap.size]? = some (.cells zeroR 52 (0, 0)) := (hB3.block _ hlt1).trans hr1.out
  have hm3 : w3.cell? ⟨w1.heap.size, 0, none⟩ = some (.int .i64 n) := by rw [cell_of_row _ _ _ _ _ (0, 0) hg3]; exact hat
  have hlt3 : w1.heap.size < w3.heap.size := by have := hb3.size; simp at this; omega
  have hlt4 : w.heap.size < w3.heap.size := by omega
  have hBW := bnext hB1 hB3
  clear hb3 hg2 hr1 hB1
  refine wp_region_mix (fun w' => w'.heap[w1.heap.size]? = some (.cells cs 48 (0, 0))) [3, 6] [0, 1, 2, 4, 3, 5, 6, 7] (by kernel_rfl) (by kernel_rfl) (fun _ _ d _ _ h => by cases d <;> exact h) (by kernel_rfl) rfl hg3 ?_
  refine mix_take 0 _ (.agg cs) rfl rfl rfl (some 19) rfl (fun w' hw' => exec_row _ _ rfl w1.heap.size rfl cs (run_loadVar_row w' _ _ _ cs (0, 0) _ hw' Try.underlying48 rfl (by rw [labSize, hsz]))) ?_
  simp only [Act.put, List.setIfInBounds_toArray, List.set_cons_zero, List.set_cons_succ]
  refine mix_take 1 _ ?_ rfl rfl rfl (some 20) rfl (fun w' hw' => ?hv1) ?_
  case hv1 => (go_simp; with_reducible rfl)
  simp only [Act.put, List.setIfInBounds_toArray, List.set_cons_zero, List.set_cons_succ]
  refine mix_take 2 _ ?_ rfl rfl rfl (some 21) rfl (fun w' hw' => ?hv2) ?_
  case hv2 =>
    have q2 : w'.cell? ⟨w1.heap.size, 0, none⟩ = some (.int .i64 n) := by rw [cell_of_row _ _ _ _ _ (0, 0) hw']; exact hat
    go_simp
    with_reducible rfl
  simp only [Act.put, List.setIfInBounds_toArray, List.set_cons_zero, List.set_cons_succ]
  refine mix_take 4 _ ?_ rfl rfl rfl (some 23) rfl (fun w' hw' => ?hv4) ?_
  case hv4 => (go_simp; with_reducible rfl)
  simp only [Act.put, List.setIfInBounds_toArray, List.set_cons_zero, List.set_cons_succ]
  refine mix_call 3 _ rfl rfl rfl 79 #[.agg #[.int .i64 n]] (some 22) rfl ?hr3 ?_
  case hr3 => go_simp
  refine (cells_any n h1 h2 _).mono ?_
  rintro e w5 ⟨v, rfl, hc5, hb5⟩
  obtain ⟨-, ca, cc, cb, rfl, -⟩ := trio_shape hc5
  refine ⟨_, rfl, ?_, ?_⟩
  · exact (hb5.block w1.heap.size hlt3).trans hg3
  simp only [Act.put, List.setIfInBounds_toArray, List.set_cons_zero, List.set_cons_succ]
  refine mix_take 5 _ (.agg (rmA cs (.slice ca (ci n).length cc) (doorF w1.heap.size))) rfl rfl rfl (some 24) rfl (fun w' hw' => exec_build_rm _ _ _ rfl cs hsz _ _ _ _ _ _ rfl rfl rfl) ?_
  simp only [Act.put, List.setIfInBounds_toArray, List.set_cons_zero, List.set_cons_succ]
  have q0 := (hb5.block w.heap.size hlt4).trans hr3
  have q1 := (hb5.block w1.heap.size hlt3).trans hg3
  refine mix_store_rm 6 _ rfl rfl rfl _ _ rfl none rfl w.heap.size _ zeroR rfl rfl q0 zeroR_size (rmA_size _ _ _ hsz) (rmA_one _ _ _ hone rfl rfl) w.heap.size (Nat.le_refl _) ?_
  intro w6 hg6 hb6 hk6 hs6
  refine ⟨(hk6 _ (by omega)).trans q1, ?_⟩
  simp only [Act.put]
  refine mix_take 7 _ ?_ rfl rfl rfl (some 5) rfl (fun w' hw' => ?hv7) ?_
  case hv7 => (go_simp; with_reducible rfl)
  simp only [Act.put, List.setIfInBounds_toArray, List.set_cons_zero, List.set_cons_succ]
  refine mix_done ?_
  have hc5' : TrioV w5 w3.heap.size (.slice ca (ci n).length cc) (ci n) := hc5
  have hb5' : Below w3.heap.size w3 w5 := (Below.drew (Below.refl _ _)).trans hb5
  have hz5 := hb5'.size
  have hT6 : TrioV w6 w.heap.size (.slice ca (ci n).length cc) (ci n) := by
    refine own_keep (World.ownsRow.mono hc5' (by omega)) (fun k hk => hk6 k ?_)
    have := (hc5'.lt k hk).1
    omega
  have hRV : RoomsV w6 w.heap.size n xs (rmA cs (.slice ca (ci n).length cc) (doorF w1.heap.size)) := by
    refine ⟨w1.heap.size, ca, cc, ?_, hT6, ?_, by omega, ?_⟩
    · rw [HCS.out]
    · rw [HCS.out]; exact (hk6 _ (by omega)).trans q1
    · omega
  have hB6 : Below w.heap.size w w6 := (bnext hBW hb5').trans hb6
  clear hc5 hc5' hb5 hb5' q0 q1 hr3 hg3 hm3 hT6
  go_wp2_with fail
  exact bodyPost_ret (results_rm rfl _ _ w.heap.size _ _ rfl rfl hg6 (rmA_size _ _ _ hsz)) rfl ⟨_, rfl, hRV, hB6⟩
end Go.Proofs.Ythkohenobbhhmaa

namespace Go.Proofs.Ythkohenobbhhmaa
open Go.RowKit
set_option maxRecDepth 4000
set_option maxHeartbeats 1600000 in
theorem roomsOf_no (n : Int) (xs : List Int) (a : Option Addr) (b len cap : Nat) (w : World) (hn : xs.length = len) (hsm : len ≤ 1048576) (h : Rd w a b 0 xs) (hb0 : len = 0 ∨ b < w.heap.size) (hL : labB n xs = false) :
    Calls Try.prog 41 #[.int .i64 n, .slice a len cap] w fun e w' => e = .returned (.tuple #[.agg zeroR, .bool false]) ∧ Below w.heap.size w w' := by
  have hB0 := balloc (Below.refl w.heap.size w) (.cells zeroR 52)
  have hlab := labelledOf_any n xs a b len cap (w.alloc (.cells zeroR 52)) hn hsm (h.later hn hb0 hB0) (lt_later hb0 hB0)
  rw [hL] at hlab
  simp only [Bool.false_eq_true, if_false] at hlab
  have HL := Lib.hid hlab
  clear hL hn h hb0 hlab
  go_enter Try.func41, Try.ntmps41
  go_wp2_with (with_reducible refine alloc_rm rfl rfl ?_)
  refine HL.out.mono ?_
  rintro e w1 ⟨rfl, hb1⟩
  have hr1 : Hid (w1.heap[w.heap.size]? = some (.cells zeroR 52 (0, 0))) := Lib.hid ((hb1.block _ (by simp)).trans (heap_alloc_new _ _))
  have hB1 := bnext hB0 hb1
  have hlt1 : w.heap.size < w1.heap.size := by have := hb1.size; simp at this; omega
  clear hb1 hB0
  go_wp2_with (first | (with_reducible refine alloc_lab rfl rfl ?_; have hg2 : Hid ((w1.alloc (.cells zeroA 48)).heap[w1.heap.size]? = some (.cells zeroA 48 (0, 0))) := Lib.hid (heap_alloc_new _ _)) | ((with_reducible refine store_lab rfl _ _ rfl w1.heap.size zeroA zeroA ?_ ?_ hg2.out zeroA_size zeroA_size zeroA_one w1.heap.size (Nat.le_refl _) ?_); exact rfl; exact rfl; intro w3 hg3 hb3; have hB3 := hB1.trans (Below.mono ((balloc (Below.refl w1.heap.size w1) (.cells zeroA 48)).trans hb3) hB1.size); have hr3 : Hid (w3.heap[w.heap.size]? = some (.cells zeroR 52 (0, 0))) := Lib.hid ((((balloc (Below.refl w1.heap.size w1) (.cells zeroA 48)).trans hb3).block _ hlt1).trans hr1.out)) | (with_reducible refine build0_rm rfl rfl ?_) | ((with_reducible refine store_rm rfl _ _ rfl w.heap.size zeroR zeroR ?_ ?_ hr3.out zeroR_size zeroR_size zeroR_one w.heap.size (Nat.le_refl _) ?_); exact rfl; exact rfl; intro w4 hg4 hb4; have hB4 := hB3.trans hb4))
  exact bodyPost_ret (results_rm rfl _ _ w.heap.size _ _ rfl rfl hg4 zeroR_size) rfl ⟨rfl, hB4⟩
/-- The door between two points: their labels have the sum 1. -/
def doorB (xs : List Int) (i j : Int) : Bool := xs.getD i.toNat 0 + xs.getD j.toNat 0 == 1
theorem lab_cell {w : World} {g n : Nat} {xs : List Int} (hg : w.heap[g]? = some (.cells (labL n xs).toArray 48 (0, 0))) (k : Nat) (hk : k < xs.length) : w.cell? ⟨g, 1 + k, none⟩ = some (.int .i64 (xs.getD k 0)) := by
  rw [cell_of_row _ _ _ _ _ (0, 0) hg]
  simp only [labL, List.getElem?_toArray]
  rw [show 1 + k = k + 1 by omega, List.getElem?_cons_succ, List.getElem?_append_left (by simpa using hk), List.getElem?_map, List.getElem?_eq_getElem hk]
  simp [List.getD, hk]
theorem allB_at2 {xs : List Int} (h : allB 0 2 xs = true) (k : Nat) (hk : k < xs.length) : 0 ≤ xs.getD k 0 ∧ xs.getD k 0 ≤ 2 := allB_at h k hk
set_option maxHeartbeats 800000 in
/-- What the function of the rooms answers of two points. -/
theorem isDoor_any (n : Nat) (xs : List Int) (i j g : Nat) (hL : labB n xs = true) (hi : i < xs.length) (hj : j < xs.length) (w : World) (hg : w.heap[g]? = some (.cells (labL n xs).toArray 48 (0, 0))) (hgl : g < w.heap.size) :
    Calls Try.prog 78 #[.agg #[.int .i64 i, .int .i64 j], .pointer (some ⟨g, 0, none⟩)] w fun e w' => e = .returned (.bool (doorB xs i j)) ∧ Below w.heap.size w w' := by
  obtain ⟨h1, h2, hl, hA⟩ := labB_yes hL
  have hcn := (Pr.cnt_le n (by omega)).1
  have ci' := lab_cell hg i hi
  have cj' := lab_cell hg j hj
  have bi := allB_at2 hA i hi
  have bj := allB_at2 hA j hj
  have HD : Hid (doorB xs i j = (xs.getD i 0 + xs.getD j 0 == 1)) := Lib.hid (by simp [doorB])
  have hw : w.heap.size < (w.alloc (.cells #[.int .i64 i, .int .i64 j] 54)).heap.size := by simp
  have hgw : g < (w.alloc (.cells #[.int .i64 i, .int .i64 j] 54)).heap.size := by simp; omega
  have ci1 : (w.alloc (.cells #[.int .i64 i, .int .i64 j] 54)).cell? ⟨g, 1 + i, none⟩ = some (.int .i64 (xs.getD i 0)) := (World.cell?_alloc_past _ _ _ hgl).trans ci'
  have cj1 : (w.alloc (.cells #[.int .i64 i, .int .i64 j] 54)).cell? ⟨g, 1 + j, none⟩ = some (.int .i64 (xs.getD j 0)) := (World.cell?_alloc_past _ _ _ hgl).trans cj'
  have p0 : (w.alloc (.cells #[.int .i64 i, .int .i64 j] 54)).cell? ⟨w.heap.size, 0, none⟩ = some (.int .i64 i) := by go_cell
  have p1 : (w.alloc (.cells #[.int .i64 i, .int .i64 j] 54)).cell? ⟨w.heap.size, 1, none⟩ = some (.int .i64 j) := by go_cell
  have hi45 : (i : Int) < 45 := by omega
  have hj45 : (j : Int) < 45 := by omega
  have hB := balloc (Below.refl w.heap.size w) (.cells #[.int .i64 i, .int .i64 j] 54)
  clear ci' cj' hg hL hA hl
  generalize xs.getD i 0 = x at ci1 bi HD
  generalize xs.getD j 0 = y at cj1 bj HD
  go_enter Try.func78, Try.ntmps78
  go_wp2_with fail
  generalize w.alloc (.cells #[.int .i64 i, .int .i64 j] 54) = w0 at ci1 cj1 p0 p1 hB hw hgw ⊢
  go_quiet (fail)
  go_wp2_with fail
  go_ret
  exact ⟨by rw [HD.out]; rfl, Below.trans hB (Below.mono (by exact below_drewN (Below.refl _ _) _) (Nat.le_refl w.heap.size))⟩
end Go.Proofs.Ythkohenobbhhmaa
