import Derived.Test.YteghcnplalmbdaaDoorHe
namespace Go.Proofs.YteghcnplalmbdaaDoor
open Go.RowKit
set_option maxRecDepth 4000
theorem hx_not {ops : Array Oper} {rest : List Oper} {o : Oper} {a : Act} {w : World} {Q : Exit → Act → World → Prop} (hgd : o.guard = none) (x : Operand) (ho : o.op = .unOp .not 4 x) (b : Bool) (hx : a.eval x = .bool b)
    (h : wpList Tryd.prog ops Q rest (a.put o.dst (.bool !b)) w) : wpList Tryd.prog ops Q (o :: rest) a w := by
  refine wpList_plain hgd fun K hK => ?_
  have e : (execOp a.eval o).run Tryd.prog w = .ok (.value (.bool !b)) w := by
    unfold execOp
    simp only [ho, hx]
    rfl
  unfold Oper.wp
  rw [e]
  exact hK _ _ h
theorem hx_move {ops : Array Oper} {rest : List Oper} {o : Oper} {a : Act} {w : World} {Q : Exit → Act → World → Prop} (hgd : o.guard = none) (x : Operand) (ho : o.op = .move x)
    (h : wpList Tryd.prog ops Q rest (a.put o.dst (a.eval x)) w) : wpList Tryd.prog ops Q (o :: rest) a w := by
  refine wpList_plain hgd fun K hK => ?_
  have e : (execOp a.eval o).run Tryd.prog w = .ok (.value (a.eval x)) w := by
    unfold execOp
    simp only [ho]
    rfl
  unfold Oper.wp
  rw [e]
  exact hK _ _ h
/-- How many of the first places are nobody's. -/
def opn (xs : List Int) : Nat → Nat
  | 0 => 0
  | k + 1 => opn xs k + (if xs.getD k 0 = 0 then 1 else 0)
theorem opn_le (xs : List Int) : ∀ k, opn xs k ≤ k
  | 0 => Nat.le_refl _
  | k + 1 => by
    have := opn_le xs k
    unfold opn
    split <;> omega
theorem opn_zero (xs : List Int) : ∀ K, opn xs K = 0 ↔ ∀ k, k < K → xs.getD k 0 ≠ 0
  | 0 => by simp [opn]
  | K + 1 => by
    have ih := opn_zero xs K
    constructor
    · intro h k hk
      unfold opn at h
      by_cases e : k < K
      · exact ih.1 (by omega) k e
      · obtain rfl : k = K := by omega
        intro e2
        rw [if_pos e2] at h
        omega
    · intro h
      unfold opn
      rw [ih.2 (fun k hk => h k (by omega)), if_neg (h K (by omega))]
theorem opn_full {xs : List Int} (h : allB 0 2 xs = true) : opn xs xs.length = 0 ↔ allB 1 2 xs = true := by
  rw [opn_zero]
  constructor
  · intro e
    refine allB_yes 1 2 xs fun k hk => ?_
    have a := allB_at h k hk
    have b := e k hk
    omega
  · intro e k hk
    have a := allB_at e k hk
    omega
set_option maxHeartbeats 800000 in
theorem countOpen_any (n m s : Nat) (xs : List Int) (w : World) (hnm : n * m = s) (h30 : s ≤ 30) (hl : xs.length = s) :
    Calls Tryd.prog 40 #[.agg (hbL n m xs).toArray] w fun e w' => e = .returned (.int .i64 (opn xs s : Nat)) ∧ Below w.heap.size w w' := by
  have hB0 := balloc (Below.refl w.heap.size w) (.cells (hbL n m xs).toArray 38)
  have hg0 := heap_alloc_new w (.cells (hbL n m xs).toArray 38)
  have hs0 : (w.alloc (.cells (hbL n m xs).toArray 38)).heap.size = w.heap.size + 1 := by simp
  have q0 := blk_cell hg0 0 (.int .i64 n) rfl
  have q1 := blk_cell hg0 1 (.int .i64 m) rfl
  have HC := Lib.hid (fun k hk => blk_cell hg0 (2 + k) _ (hb_at n m xs k hk))
  have HNM := Lib.hid hnm
  have HL := Lib.hid hl
  have hsi : (s : Int) ≤ 30 := by omega
  clear hg0 hnm hl
  go_enter Tryd.func40, Tryd.ntmps40
  go_wp2_with fail
  generalize w.alloc (.cells (hbL n m xs).toArray 38) = w0 at hB0 hs0 q0 q1 HC ⊢
  refine (gridSize_any n m s HNM.out h30 _).mono ?_
  rintro e w1 ⟨rfl, hb1⟩
  have HC1 := Lib.hid (fun k hk => (hb1.cell (p := ⟨w.heap.size, 2 + k, none⟩) (by show w.heap.size < _; omega)).trans (HC.out k hk))
  have hB1 := bnext hB0 hb1
  clear hb1 q0 q1
  go_wp2_with fail
  go_loop [3, 12] (fun v3 v12 => ∃ k : Nat, k ≤ s ∧ v12 = .int .i64 k ∧ v3 = .int .i64 (opn xs k : Nat)) (fun _ v12 => s - (intOf v12).toNat)
  case atStart => exact ⟨0, Nat.zero_le _, rfl, rfl⟩
  case round =>
    obtain ⟨k, hk, rfl, rfl⟩ := hrel
    by_cases hlt : k < s
    · have c := HC1.out k (by rw [HL.out]; exact hlt)
      have hki : (k : Int) < (s : Int) := by omega
      have hle := opn_le xs k
      have HS : Hid (opn xs (k + 1) = opn xs k + (if xs.getD k 0 = 0 then 1 else 0)) := Lib.hid rfl
      generalize opn xs k = o1 at hle HS ⊢
      generalize xs.getD k 0 = x at c HS
      by_cases hx : x = 0
      · have HX : Hid (opn xs (k + 1) = o1 + 1) := Lib.hid (by rw [HS.out, if_pos hx])
        have hxb : (x == 0) = true := by simpa using hx
        clear hx
        go_wp2_with fail
        go_round
        case rel => exact ⟨k + 1, by omega, by go_num, by rw [HX.out]; go_num⟩
        case measure => simp [intOf]; omega
      · have HX : Hid (opn xs (k + 1) = o1) := Lib.hid (by rw [HS.out, if_neg hx]; rfl)
        have hxb : (x == 0) = false := by simpa using hx
        clear hx
        go_wp2_with fail
        go_round
        case rel => exact ⟨k + 1, by omega, by go_num, by rw [HX.out]⟩
        case measure => simp [intOf]; omega
    · have hk2 : k = s := by omega
      rw [hk2]
      clear hk2
      go_wp2_with fail
      go_ret
      exact ⟨rfl, hB1⟩
theorem boardB_yes' {n m : Int} {xs : List Int} (h : boardB n m xs = true) : ∃ n' m' s : Nat, n = n' ∧ m = m' ∧ n' * m' = s ∧ s ≤ 30 ∧ 1 ≤ n' ∧ 1 ≤ m' ∧ n * m = (s : Int) ∧ xs.length = s ∧ allB 0 2 xs = true := by
  simp only [boardB, Bool.and_eq_true, decide_eq_true_eq] at h
  obtain ⟨hs, hl, hA⟩ := h
  obtain ⟨n', m', s, e1, e2, e3, e4, e5, e6, e7⟩ := sidesB_yes hs
  exact ⟨n', m', s, e1, e2, e3, e4, e5, e6, e7, by omega, hA⟩
/-- A full board. -/
def fullBd (n m : Int) (xs : List Int) : Bool := boardB n m xs && allB 1 2 xs
set_option maxHeartbeats 1600000 in
theorem fullBoardOf_no (n m : Int) (xs : List Int) (a : Option Addr) (b len cap : Nat) (w : World) (hn : xs.length = len) (hsm : len ≤ 1048576) (h : Rd w a b 0 xs) (hb0 : len = 0 ∨ b < w.heap.size) (hF : fullBd n m xs = false) :
    Calls Tryd.prog 23 #[.int .i64 n, .int .i64 m, .slice a len cap] w fun e w' => e = .returned (.tuple #[.agg zeroH, .bool false]) ∧ Below w.heap.size w w' := by
  have hB0 := balloc (Below.refl w.heap.size w) (.cells zeroH 38)
  have hz0 := heap_alloc_new w (.cells zeroH 38)
  have hs0 : (w.alloc (.cells zeroH 38)).heap.size = w.heap.size + 1 := by simp
  have hr0 := h.later hn hb0 hB0
  have hl0 := lt_later hb0 hB0
  cases hB : boardB n m xs
  · have HG := Lib.hid (hexBoardOf_no n m xs a b len cap _ hn hsm hr0 hl0 hB)
    clear h hb0 hB hF hr0 hl0 hn
    go_enter Tryd.func23, Tryd.ntmps23
    go_wp2_with (with_reducible refine alloc_hb rfl rfl ?_)
    generalize w.alloc (.cells zeroH 38) = w0 at hB0 hz0 hs0 HG ⊢
    refine HG.out.mono ?_
    rintro e w1 ⟨rfl, hb1⟩
    have hz1 := (hb1.block w.heap.size (by omega)).trans hz0
    have hle := hb1.size
    have hB1 := bnext hB0 hb1
    clear hz0 hb1
    go_wp2_with (first
      | (with_reducible refine alloc_hb rfl rfl ?_)
      | ((with_reducible refine store_hb rfl _ _ rfl w1.heap.size zeroH zeroH ?_ ?_ (heap_alloc_new w1 _) zeroH_size zeroH_size zeroH_one w1.heap.size (Nat.le_refl _) ?_); exact rfl; exact rfl; intro w2 hg2 hb2; have hB2 := (balloc hB1 (.cells zeroH 38)).trans (hb2.mono hB1.size); have hz2 := Lib.hid ((hb2.block w.heap.size (by omega)).trans ((Below.heap_alloc w1 (.cells zeroH 38) w.heap.size (by omega)).trans hz1)))
      | (with_reducible refine build0_hb rfl rfl ?_)
      | ((with_reducible refine store_hb rfl _ _ rfl w.heap.size zeroH zeroH ?_ ?_ hz2.out zeroH_size zeroH_size zeroH_one w.heap.size (Nat.le_refl _) ?_); exact rfl; exact rfl; intro w3 hg3 hb3))
    exact bodyPost_ret (results_hb rfl _ _ w.heap.size _ _ rfl rfl hg3 zeroH_size) rfl ⟨rfl, hB2.trans hb3⟩
  · have hA : allB 1 2 xs = false := by simpa [fullBd, hB] using hF
    obtain ⟨n, m, s, rfl, rfl, hnm, h30, h1, h2, hp, hl, hAB⟩ := boardB_yes' hB
    have HG := Lib.hid (hexBoardOf_yes n m s xs a b len cap _ hn hr0 hl0 h1 h2 hnm h30 (by omega) hAB)
    have hpos : 0 < opn xs s := by
      rcases Nat.eq_zero_or_pos (opn xs s) with e | e
      · rw [← hl, opn_full hAB, hA] at e
        cases e
      · exact e
    have hle2 := opn_le xs s
    have HCO := Lib.hid (fun w => countOpen_any n m s xs w hnm h30 hl)
    have hsz := hbL_size n m xs (by omega)
    have hone := hbL_one n m xs
    obtain ⟨bd, hbd⟩ : ∃ bd, bd = (hbL n m xs).toArray := ⟨_, rfl⟩
    rw [← hbd] at HG HCO hsz hone
    generalize opn xs s = op at hpos hle2 HCO
    clear h hb0 hB hF hr0 hl0 hn hA hAB hnm hp hl hbd
    go_enter Tryd.func23, Tryd.ntmps23
    go_wp2_with (with_reducible refine alloc_hb rfl rfl ?_)
    generalize w.alloc (.cells zeroH 38) = w0 at hB0 hz0 hs0 HG ⊢
    refine HG.out.mono ?_
    rintro e w1 ⟨rfl, hb1⟩
    have hz1 := (hb1.block w.heap.size (by omega)).trans hz0
    have hle := hb1.size
    have hB1 := bnext hB0 hb1
    clear hz0 hb1
    go_wp2_with (first
      | (with_reducible refine alloc_hb rfl rfl ?_)
      | ((with_reducible refine store_hb rfl _ _ rfl w1.heap.size bd zeroH ?_ ?_ (heap_alloc_new w1 _) zeroH_size hsz hone w1.heap.size (Nat.le_refl _) ?_); exact rfl; exact rfl; intro w2 hg2 hb2; have hB2 := (balloc hB1 (.cells zeroH 38)).trans (hb2.mono hB1.size); have hz2 := Lib.hid ((hb2.block w.heap.size (by omega)).trans ((Below.heap_alloc w1 (.cells zeroH 38) w.heap.size (by omega)).trans hz1)))
      | ((with_reducible refine hx_not rfl _ rfl true ?_ ?_); exact rfl; (with_reducible refine hx_move rfl _ rfl ?_); (with_reducible refine load_blk blkHex ?_ _ rfl w1.heap.size ?_ bd hg2 hsz ?_); exact rfl; exact rfl; simp only [Act.put, Act.eval, List.setIfInBounds_toArray, List.set_cons_zero, List.set_cons_succ]))
    refine (HCO.out _).mono ?_
    rintro e w3 ⟨rfl, hb3⟩
    have hz3 := Lib.hid ((hb3.block w.heap.size (by have := hB2.size; have := (hb2.size); simp at this; omega)).trans hz2.out)
    have hB3 := bnext hB2 hb3
    clear hz1 hg2 hb2 hb3
    go_wp2_with (first
      | (with_reducible refine build0_hb rfl rfl ?_)
      | ((with_reducible refine store_hb rfl _ _ rfl w.heap.size zeroH zeroH ?_ ?_ hz3.out zeroH_size zeroH_size zeroH_one w.heap.size (Nat.le_refl _) ?_); exact rfl; exact rfl; intro w4 hg4 hb4))
    exact bodyPost_ret (results_hb rfl _ _ w.heap.size _ _ rfl rfl hg4 zeroH_size) rfl ⟨rfl, hB3.trans hb4⟩
set_option maxHeartbeats 1600000 in
theorem fullBoardOf_yes (n m s : Nat) (xs : List Int) (a : Option Addr) (b len cap : Nat) (w : World) (hn : xs.length = len) (h : Rd w a b 0 xs) (hb0 : len = 0 ∨ b < w.heap.size) (h1 : 1 ≤ n) (h2 : 1 ≤ m) (hnm : n * m = s) (h30 : s ≤ 30) (hl : len = s) (hA : allB 1 2 xs = true) :
    Calls Tryd.prog 23 #[.int .i64 n, .int .i64 m, .slice a len cap] w fun e w' => e = .returned (.tuple #[.agg (hbL n m xs).toArray, .bool true]) ∧ Below w.heap.size w w' := by
  have hAB : allB 0 2 xs = true := allB_yes 0 2 xs fun k hk => by have := allB_at hA k hk; omega
  have hB0 := balloc (Below.refl w.heap.size w) (.cells zeroH 38)
  have hz0 := heap_alloc_new w (.cells zeroH 38)
  have hs0 : (w.alloc (.cells zeroH 38)).heap.size = w.heap.size + 1 := by simp
  have hr0 := h.later hn hb0 hB0
  have hl0 := lt_later hb0 hB0
  have HG := Lib.hid (hexBoardOf_yes n m s xs a b len cap _ hn hr0 hl0 h1 h2 hnm h30 hl hAB)
  have hop : opn xs s = 0 := by rw [← hl, ← hn, opn_full hAB]; exact hA
  have HCO := Lib.hid (fun w => countOpen_any n m s xs w hnm h30 (by omega))
  rw [hop] at HCO
  have hsz := hbL_size n m xs (by omega)
  have hone := hbL_one n m xs
  generalize (hbL n m xs).toArray = bd at HG HCO hsz hone ⊢
  clear h hb0 hr0 hl0 hn hA hAB hnm hl hop
  go_enter Tryd.func23, Tryd.ntmps23
  go_wp2_with (with_reducible refine alloc_hb rfl rfl ?_)
  generalize w.alloc (.cells zeroH 38) = w0 at hB0 hz0 hs0 HG ⊢
  refine HG.out.mono ?_
  rintro e w1 ⟨rfl, hb1⟩
  have hz1 := (hb1.block w.heap.size (by omega)).trans hz0
  have hle := hb1.size
  have hB1 := bnext hB0 hb1
  clear hz0 hb1
  go_wp2_with (first
    | (with_reducible refine alloc_hb rfl rfl ?_)
    | ((with_reducible refine store_hb rfl _ _ rfl w1.heap.size bd zeroH ?_ ?_ (heap_alloc_new w1 _) zeroH_size hsz hone w1.heap.size (Nat.le_refl _) ?_); exact rfl; exact rfl; intro w2 hg2 hb2; have hB2 := (balloc hB1 (.cells zeroH 38)).trans (hb2.mono hB1.size); have hz2 := Lib.hid ((hb2.block w.heap.size (by omega)).trans ((Below.heap_alloc w1 (.cells zeroH 38) w.heap.size (by omega)).trans hz1)))
    | ((with_reducible refine hx_not rfl _ rfl true ?_ ?_); exact rfl; (with_reducible refine hx_move rfl _ rfl ?_); (with_reducible refine load_blk blkHex ?_ _ rfl w1.heap.size ?_ bd hg2 hsz ?_); exact rfl; exact rfl; simp only [Act.put, Act.eval, List.setIfInBounds_toArray, List.set_cons_zero, List.set_cons_succ]))
  refine (HCO.out _).mono ?_
  rintro e w3 ⟨rfl, hb3⟩
  have hz3 := Lib.hid ((hb3.block w.heap.size (by have := hB2.size; have := (hb2.size); simp at this; omega)).trans hz2.out)
  have hg3 := Lib.hid ((hb3.block w1.heap.size (by have := hb2.size; simp at this; omega)).trans hg2)
  have hB3 := bnext hB2 hb3
  clear hz1 hg2 hb2 hb3
  go_wp2_with (first
    | ((with_reducible refine load_blk blkHex ?_ _ rfl w1.heap.size ?_ bd hg3.out hsz ?_); exact rfl; exact rfl; simp only [Act.put, List.setIfInBounds_toArray, List.set_cons_zero, List.set_cons_succ])
    | ((with_reducible refine store_hb rfl _ _ rfl w.heap.size bd zeroH ?_ ?_ hz3.out zeroH_size hsz hone w.heap.size (Nat.le_refl _) ?_); exact rfl; exact rfl; intro w4 hg4 hb4))
  exact bodyPost_ret (results_hb rfl _ _ w.heap.size _ _ rfl rfl hg4 hsz) rfl ⟨rfl, hB3.trans hb4⟩
end Go.Proofs.YteghcnplalmbdaaDoor
