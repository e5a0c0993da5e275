import Derived.Test.YteghcnplalmbdaaDoorHa
import Derived.Test.YteghcnplalmbdaaDoorZc
namespace Go.Proofs.YteghcnplalmbdaaDoor
open Go.RowKit
set_option maxRecDepth 4000
theorem splice_hb (n m : Nat) (xs : List Int) : splice (hb0 n m).toList 2 (xs.map (Value.int .i64)) = hbL n m xs := by
  simp only [splice, hb0, hbL, List.take_succ_cons, List.take_succ_cons, List.take_zero, List.length_map, List.toList_toArray, List.cons_append, List.nil_append]
  congr 1
  rw [show 2 + xs.length = xs.length + 1 + 1 by omega, List.drop_succ_cons, List.drop_succ_cons, List.drop_replicate]
theorem hbL_one (n m : Nat) (xs : List Int) : (hbL n m xs).toArray.all (·.oneCell') = true := by
  simp only [hbL, List.all_toArray, List.all_cons, List.all_append, List.all_map, List.all_replicate, Bool.and_eq_true]
  refine ⟨rfl, rfl, ?_, ?_⟩
  · simp only [List.all_eq_true]; intro x _; rfl
  · split <;> rfl
theorem hbL_size (n m : Nat) (xs : List Int) (h : xs.length ≤ 30) : (hbL n m xs).toArray.size = 32 := by rw [List.size_toArray]; exact hbL_len n m xs h
theorem copy_hb {ops : Array Oper} {rest : List Oper} {o : Oper} {a : Act} {w : World} {Q : Exit → Act → World → Prop} (hgd : o.guard = none) (d s : Operand)
    (ho : o.op = .call { callee := .builtin .copy, args := #[d, s], argTypes := #[22, 22] }) (g n m : Nat) (xs : List Int) (ad : Option Addr) (b off len cap : Nat)
    (hd : a.eval d = .slice (some ⟨g, 2, none⟩) 30 30) (hs : a.eval s = .slice ad len cap) (hg : w.heap[g]? = some (.cells (hb0 n m) 38 (0, 0))) (hr : Rd w ad b off xs) (hn : xs.length = len) (hl : len ≤ 30) (B : Nat) (hB : B ≤ g)
    (h : ∀ w', w'.heap[g]? = some (.cells (hbL n m xs).toArray 38 (0, 0)) → Below B w w' → wpList Tryd.prog ops Q rest (a.put o.dst (goInt (xs.map (Value.int .i64)).length)) w') : wpList Tryd.prog ops Q (o :: rest) a w := by
  refine wpList_copy_splice hgd d s 22 22 ho 3 Tryd.underlying22 (by kernel_rfl) (some ⟨g, 2, none⟩) ad 30 30 len cap hd hs g 2 (hb0 n m).toList 38 (by simpa using hg) (xs.map (Value.int .i64)) ?_ ?_ ?_ (ints_oneCell _ _) B w (Below.refl _ _) hB ?_
  · rw [List.length_map, hn]; simp [Nat.min_def]; omega
  · intro hp
    refine ⟨rfl, ⟨b, off, none⟩, ?_, ?_⟩
    · exact (hr.2 0 (by simpa using hp)).1
    · intro j v hv
      have hj : j < xs.length := by have := (List.getElem?_eq_some_iff.1 hv).1; simpa using this
      rw [Addr.add_lit, (hr.2 j hj).2]
      simp [List.getD, hj] at hv ⊢
      exact hv
  · rw [List.length_map, hn]; simp [hb0]; omega
  · intro w' hw hb
    refine h w' ?_ hb
    have := hw.out
    rwa [splice_hb] at this
theorem results_hb {fn : Func} {p q : Tmp} (h : fn.results = #[.cell p 38, .tmp q]) (tmps : Array Value) (w : World) (g : Nat) (cs : Array Value) (v : Value)
    (hp : tmps.getD p undef = .pointer (some ⟨g, 0, none⟩)) (hq : tmps.getD q undef = v) (hg : w.heap[g]? = some (.cells cs 38 (0, 0))) (hc : cs.size = 32) :
    (results fn tmps).run Tryd.prog w = .ok (.tuple #[.agg cs, v]) w := by
  have hp' : tmps[p]?.getD undef = .pointer (some ⟨g, 0, none⟩) := by simpa using hp
  have hq' : tmps[q]?.getD undef = v := by simpa using hq
  have hload := run_loadVar_row (P := Tryd.prog) w g 38 38 cs (0, 0) _ hg Tryd.underlying38 rfl (by rw [hbSize, hc])
  simp [results, h, hp', hq', asAddr, hload]
/-- The places of a grid. -/
theorem gridSize_any (n m s : Nat) (hnm : n * m = s) (hs : s ≤ 30) (w : World) :
    Calls Tryd.prog 41 #[.agg #[.int .i64 n, .int .i64 m]] w fun e w' => e = .returned (.int .i64 s) ∧ Below w.heap.size w w' := by
  have hp : (n : Int) * (m : Int) = (s : Int) := by rw [← hnm]; exact (Int.natCast_mul n m).symm
  have hw : wrap64 ((n : Int) * (m : Int)) = (s : Int) := by rw [hp, IntWalk.wrap64_in _ ⟨by omega, by omega⟩]
  have HP := Lib.hid hp
  clear hp
  go_enter Tryd.func41, Tryd.ntmps41
  go_wp2_with fail
  go_ret
  refine ⟨ret_int ?_, by go_grown⟩
  exact HP.out
set_option maxHeartbeats 1000000 in
theorem withOwners_yes (n m : Nat) (xs : List Int) (a : Option Addr) (b off len cap : Nat) (s : Nat) (hnm : n * m = s) (h2 : s ≤ 30) (w : World) (hn : xs.length = len) (h : Rd w a b off xs) (hb0 : len = 0 ∨ b < w.heap.size)
    (hl : len = s) (hA : allB 0 2 xs = true) :
    Calls Tryd.prog 31 #[.agg #[.int .i64 n, .int .i64 m], .slice a len cap] w fun e w' => e = .returned (.tuple #[.agg (hbL n m xs).toArray, .bool true]) ∧ Below w.heap.size w w' := by
  have hbl : b < w.heap.size ∨ len = 0 := by omega
  have HR := Lib.hid h
  have HN := Lib.hid hn
  have HA := Lib.hid hA
  have hne : ((len : Int) != (s : Nat)) = false := by rw [hl]; simp
  have HL := Lib.hid hl
  have hlb : len ≤ 30 := by omega
  clear h hn hA hl hb0
  go_enter Tryd.func31, Tryd.ntmps31
  go_wp2_with (with_reducible refine alloc_hb rfl rfl ?_)
  refine (gridSize_any n m s hnm h2 _).mono ?_
  rintro e w1 ⟨rfl, hb1⟩
  have hB1 : Below w.heap.size w w1 := Below.trans (by go_grown) (hb1.mono (by simp; omega))
  have HRD : Hid (∀ W, Below w.heap.size w W → Rd W a b off xs) := by
    intro W hB
    refine ⟨HR.out.1, fun j hj => ⟨(HR.out.2 j hj).1, ?_⟩⟩
    rcases hbl with h | h
    · exact (hB.cell h).trans (HR.out.2 j hj).2
    · rw [HN.out, h] at hj; exact absurd hj (Nat.not_lt_zero _)
  have HR1 := Lib.hid (HRD.out _ hB1)
  have hm1 : w1.cell? ⟨w.heap.size, 0, none⟩ = some (.int .i64 n) := (hb1.cell (by simp; omega)).trans (by go_simp)
  have hres : w1.heap[w.heap.size + 1]? = some (.cells zeroH 38 (0, 0)) := by
    have hnew : ∀ (o : Obj), ((w.alloc (.cells #[.int .i64 n, .int .i64 m] 35)).alloc o).heap[w.heap.size + 1]? = some o := fun o => by
      have := heap_alloc_new (w.alloc (.cells #[.int .i64 n, .int .i64 m] 35)) o
      rwa [World.size_alloc] at this
    exact (hb1.block _ (by simp)).trans (hnew _)
  have hz1 := hb1.size
  simp only [World.size_alloc] at hz1
  have HRES := Lib.hid hres
  have HM1 := Lib.hid hm1
  have hm2 : w1.cell? ⟨w.heap.size, 1, none⟩ = some (.int .i64 m) := (hb1.cell (by simp; omega)).trans (by go_simp)
  have HM2 := Lib.hid hm2
  clear hb1 hres hm1 hm2
  have hmx : len ≤ 9223372036854775807 := by omega
  go_wp2_with fail
  go_loop [17] (fun v17 => ∃ k : Nat, k ≤ len ∧ v17 = .int .i64 k) (fun v17 => len - (intOf v17).toNat)
  case atStart => exact ⟨0, Nat.zero_le _, rfl⟩
  case round =>
    obtain ⟨k, hk, rfl⟩ := hrel
    by_cases hlt : k < len
    · obtain ⟨ha, c⟩ := HR1.out.2 k (by rw [HN.out]; exact hlt)
      obtain ⟨l0, l2⟩ := allB_at HA.out k (by rw [HN.out]; exact hlt)
      subst ha
      generalize xs.getD k 0 = x at *
      go_wp2_with fail
      go_round
      case rel => exact ⟨k + 1, by omega, by go_num⟩
      case measure => simp [intOf]; omega
    · have hm := HM1.out
      have hm' := HM2.out
      have hk2 : len = k := by omega
      subst hk2
      have hlt1 : w.heap.size + 1 < w1.heap.size := by omega
      have hsz := hbL_size n m xs (by have := HN.out; omega)
      go_wp2_with (first | ((with_reducible refine buildn_hb rfl _ n m rfl ?_ ?_); exact rfl) | (with_reducible refine alloc_hb rfl rfl ?_) | ((with_reducible refine store_hb rfl _ _ rfl w1.heap.size (hb0 n m) zeroH ?_ ?_ ?_ zeroH_size (hb0_size _ _) (hb0_one _ _) w1.heap.size (Nat.le_refl _) ?_); exact rfl; exact rfl; exact heap_alloc_new _ _; intro w2 hg2 hb2; have hB2 := (balloc hB1 (.cells zeroH 38)).trans (hb2.mono hB1.size); have hR2 := Lib.hid (HRD.out _ hB2); have hres2 := Lib.hid ((hb2.block _ hlt1).trans ((Below.heap_alloc w1 _ _ hlt1).trans HRES.out))) | ((with_reducible refine copy_hb rfl _ _ rfl w1.heap.size n m xs a b off len cap ?_ ?_ hg2 hR2.out HN.out hlb w1.heap.size (Nat.le_refl _) ?_); exact rfl; exact rfl; intro w3 hg3 hb3; have hB3 := hB2.trans (hb3.mono hB1.size); have hres3 := Lib.hid ((hb3.block _ hlt1).trans hres2.out)) | ((with_reducible refine load_hb rfl _ rfl w1.heap.size ?_ (hbL n m xs).toArray hg3 hsz ?_); exact rfl) | ((with_reducible refine store_hb rfl _ _ rfl (w.heap.size + 1) (hbL n m xs).toArray zeroH ?_ ?_ hres3.out zeroH_size hsz (hbL_one _ _ _) (w.heap.size + 1) (Nat.le_refl _) ?_); exact rfl; exact rfl; intro w4 hg4 hb4; have hB4 := hB3.trans (hb4.mono (Nat.le_succ _))))
      exact bodyPost_ret (results_hb rfl _ _ (w.heap.size + 1) _ _ rfl rfl hg4 hsz) rfl ⟨rfl, hB4⟩
set_option maxHeartbeats 1000000 in
theorem withOwners_no (n m : Nat) (xs : List Int) (a : Option Addr) (b off len cap : Nat) (s : Nat) (hnm : n * m = s) (h2 : s ≤ 30) (w : World) (hn : xs.length = len) (h : Rd w a b off xs) (hb0 : len = 0 ∨ b < w.heap.size)
    (hno : ¬ (len = s ∧ allB 0 2 xs = true)) (hmax : len ≤ 1048576) :
    Calls Tryd.prog 31 #[.agg #[.int .i64 n, .int .i64 m], .slice a len cap] w fun e w' => e = .returned (.tuple #[.agg zeroH, .bool false]) ∧ Below w.heap.size w w' := by
  have hbl : b < w.heap.size ∨ len = 0 := by omega
  have HR := Lib.hid h
  have HN := Lib.hid hn
  have HNO := Lib.hid hno
  have hbl2 : len ≤ 9223372036854775807 := by omega
  clear h hn hno hb0
  go_enter Tryd.func31, Tryd.ntmps31
  go_wp2_with (with_reducible refine alloc_hb rfl rfl ?_)
  refine (gridSize_any n m s hnm h2 _).mono ?_
  rintro e w1 ⟨rfl, hb1⟩
  have hB1 : Below w.heap.size w w1 := Below.trans (by go_grown) (hb1.mono (by simp; omega))
  have HRD : Hid (∀ W, Below w.heap.size w W → Rd W a b off xs) := by
    intro W hB
    refine ⟨HR.out.1, fun j hj => ⟨(HR.out.2 j hj).1, ?_⟩⟩
    rcases hbl with h | h
    · exact (hB.cell h).trans (HR.out.2 j hj).2
    · rw [HN.out, h] at hj; exact absurd hj (Nat.not_lt_zero _)
  have HR1 := Lib.hid (HRD.out _ hB1)
  have hm1 : w1.cell? ⟨w.heap.size, 0, none⟩ = some (.int .i64 n) := (hb1.cell (by simp; omega)).trans (by go_simp)
  have hres : w1.heap[w.heap.size + 1]? = some (.cells zeroH 38 (0, 0)) := by
    have hnew : ∀ (o : Obj), ((w.alloc (.cells #[.int .i64 n, .int .i64 m] 35)).alloc o).heap[w.heap.size + 1]? = some o := fun o => by
      have := heap_alloc_new (w.alloc (.cells #[.int .i64 n, .int .i64 m] 35)) o
      rwa [World.size_alloc] at this
    exact (hb1.block _ (by simp)).trans (hnew _)
  have hz1 := hb1.size
  simp only [World.size_alloc] at hz1
  have HRES := Lib.hid hres
  have HM1 := Lib.hid hm1
  have hm2 : w1.cell? ⟨w.heap.size, 1, none⟩ = some (.int .i64 m) := (hb1.cell (by simp; omega)).trans (by go_simp)
  have HM2 := Lib.hid hm2
  clear hb1 hres hm1 hm2
  by_cases hl : len = s
  · have hne : ((len : Int) != (s : Nat)) = false := by rw [hl]; simp
    have HL := Lib.hid hl
    clear hl
    go_wp2_with fail
    go_loop [17] (fun v17 => ∃ k : Nat, k ≤ len ∧ v17 = .int .i64 k ∧ ∀ j, j < k → 0 ≤ xs.getD j 0 ∧ xs.getD j 0 ≤ 2) (fun v17 => len - (intOf v17).toNat)
    case atStart => exact ⟨0, Nat.zero_le _, rfl, by omega⟩
    case round =>
      obtain ⟨k, hk, rfl, hall⟩ := hrel
      have HALL := Lib.hid hall
      clear hall
      by_cases hlt : k < len
      · obtain ⟨ha, c⟩ := HR1.out.2 k (by rw [HN.out]; exact hlt)
        subst ha
        by_cases hx : 0 ≤ xs.getD k 0 ∧ xs.getD k 0 ≤ 2
        · have HX := Lib.hid hx
          obtain ⟨l0, l2⟩ := hx
          generalize hxe : xs.getD k 0 = x at *
          have HXE := Lib.hid hxe
          clear hxe
          go_wp2_with fail
          go_round
          case rel =>
            refine ⟨k + 1, by omega, by go_num, fun j hj => ?_⟩
            by_cases hjk : j < k
            · exact HALL.out j hjk
            · obtain rfl : j = k := by omega
              rw [HXE.out]; exact HX.out
          case measure => simp [intOf]; omega
        · by_cases l0 : 0 ≤ xs.getD k 0
          · have l2 : ¬ xs.getD k 0 ≤ 2 := fun l2 => hx ⟨l0, l2⟩
            clear hx HALL
            generalize xs.getD k 0 = x at *
            go_wp2_with (first | ((with_reducible refine build0_hb rfl rfl ?_)) | ((with_reducible refine store_hb rfl _ _ rfl (w.heap.size + 1) zeroH zeroH ?_ ?_ HRES.out zeroH_size zeroH_size zeroH_one (w.heap.size + 1) (Nat.le_refl _) ?_); exact rfl; exact rfl; intro w4 hg4 hb4; have hB4 := hB1.trans (hb4.mono (Nat.le_succ _))))
            exact bodyPost_ret (results_hb rfl _ _ (w.heap.size + 1) _ _ rfl rfl hg4 zeroH_size) rfl ⟨rfl, hB4⟩
          · clear hx HALL
            generalize xs.getD k 0 = x at *
            go_wp2_with (first | ((with_reducible refine build0_hb rfl rfl ?_)) | ((with_reducible refine store_hb rfl _ _ rfl (w.heap.size + 1) zeroH zeroH ?_ ?_ HRES.out zeroH_size zeroH_size zeroH_one (w.heap.size + 1) (Nat.le_refl _) ?_); exact rfl; exact rfl; intro w4 hg4 hb4; have hB4 := hB1.trans (hb4.mono (Nat.le_succ _))))
            exact bodyPost_ret (results_hb rfl _ _ (w.heap.size + 1) _ _ rfl rfl hg4 zeroH_size) rfl ⟨rfl, hB4⟩
      · exfalso
        have hk2 : xs.length = k := by rw [HN.out]; omega
        exact HNO.out ⟨HL.out, allB_yes 0 2 xs (by rw [hk2]; exact HALL.out)⟩
  · have hne : ((len : Int) != (s : Nat)) = true := by simp; omega
    clear hl
    go_wp2_with (first | ((with_reducible refine build0_hb rfl rfl ?_)) | ((with_reducible refine store_hb rfl _ _ rfl (w.heap.size + 1) zeroH zeroH ?_ ?_ HRES.out zeroH_size zeroH_size zeroH_one (w.heap.size + 1) (Nat.le_refl _) ?_); exact rfl; exact rfl; intro w4 hg4 hb4; have hB4 := hB1.trans (hb4.mono (Nat.le_succ _))))
    exact bodyPost_ret (results_hb rfl _ _ (w.heap.size + 1) _ _ rfl rfl hg4 zeroH_size) rfl ⟨rfl, hB4⟩
end Go.Proofs.YteghcnplalmbdaaDoor
