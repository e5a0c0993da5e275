import Derived.Test.YtjbdhgomcchoaaaIf
namespace Go.Proofs.Ytjbdhgomcchoaaa
open Go.RowKit
theorem load_rm_g {ops : Array Oper} {rest : List Oper} {o : Oper} {a : Act} {w : World} {Q : Exit → Act → World → Prop} (hw : Region.wanted o (yielded ops a.tmps) = true) (x : Operand) (ho : o.op = .load 66 x) (g : Nat) (hx : a.eval x = .pointer (some ⟨g, 0, none⟩)) (cs : Array Value) (hg : w.heap[g]? = some (.cells cs 66 (0, 0))) (hc : cs.size = 48)
    (h : wpList Try.prog ops Q rest (a.put o.dst (.agg cs)) w) : wpList Try.prog ops Q (o :: rest) a w :=
  wpList_step fun K hK => by
    rw [if_pos hw]
    exact wp_load_row _ x ho g hx _ cs (0, 0) _ hg Try.underlying66 rfl (by rw [rmSize, hc]) (hK _ _ h)
theorem not_op {ops : Array Oper} {rest : List Oper} {o : Oper} {a : Act} {w : World} {Q : Exit → Act → World → Prop} (hgd : o.guard = none) (x : Operand) (ho : o.op = .unOp .not 4 x) (b : Bool) (hx : a.eval x = .bool b)
    (h : wpList Try.prog ops Q rest (a.put o.dst (.bool !b)) w) : wpList Try.prog ops Q (o :: rest) a w := by
  refine wpList_plain hgd fun K hK => ?_
  have e : (execOp a.eval o).run Try.prog w = .ok (.value (.bool !b)) w := by
    unfold execOp
    simp only [ho, hx]
    rfl
  unfold Oper.wp
  rw [e]
  exact hK _ _ h
theorem move_op {ops : Array Oper} {rest : List Oper} {o : Oper} {a : Act} {w : World} {Q : Exit → Act → World → Prop} (hgd : o.guard = none) (x : Operand) (ho : o.op = .move x)
    (h : wpList Try.prog ops Q rest (a.put o.dst (a.eval x)) w) : wpList Try.prog ops Q (o :: rest) a w := by
  refine wpList_plain hgd fun K hK => ?_
  have e : (execOp a.eval o).run Try.prog w = .ok (.value (a.eval x)) w := by
    unfold execOp
    simp only [ho]
    rfl
  unfold Oper.wp
  rw [e]
  exact hK _ _ h
set_option maxHeartbeats 400000 in
theorem hasRoom_yes (n k : Nat) (r : Array Value) (ca : Option Addr) (cc : Nat) (w : World) (hr : r[46]? = some (.slice ca (ci n).length cc)) (hk : k < (ci n).length) (_ : (ci n).length ≤ 1000) :
    Calls Try.prog 70 #[.agg r, .int .i64 k] w fun e w' => e = .returned (.bool true) ∧ Below w.heap.size w w' := by
  have q46 : (w.alloc (.cells r 66)).cell? ⟨w.heap.size, 46, none⟩ = some (.slice ca (ci n).length cc) := (cell_of_row _ _ _ _ _ (0, 0) (heap_alloc_new w _)).trans hr
  have hB := balloc (Below.refl w.heap.size w) (.cells r 66)
  have hki : (k : Int) < ((ci n).length : Int) := by omega
  clear hr
  go_enter Try.func70, Try.ntmps70
  go_wp2_with fail
  go_ret
  exact ⟨ret_bool (by first | (simp; done) | (simp; omega)), hB⟩
set_option maxHeartbeats 400000 in
theorem hasRoom_no (n : Nat) (k : Int) (r : Array Value) (ca : Option Addr) (cc : Nat) (w : World) (hr : r[46]? = some (.slice ca (ci n).length cc)) (hk : ¬ (0 ≤ k ∧ k < ((ci n).length : Nat))) (_ : (ci n).length ≤ 1000) :
    Calls Try.prog 70 #[.agg r, .int .i64 k] w fun e w' => e = .returned (.bool false) ∧ Below w.heap.size w w' := by
  have q46 : (w.alloc (.cells r 66)).cell? ⟨w.heap.size, 46, none⟩ = some (.slice ca (ci n).length cc) := (cell_of_row _ _ _ _ _ (0, 0) (heap_alloc_new w _)).trans hr
  have hB := balloc (Below.refl w.heap.size w) (.cells r 66)
  clear hr
  by_cases hk0 : 0 ≤ k
  · have hk1 : ¬ k < ((ci n).length : Int) := fun h => hk ⟨hk0, h⟩
    clear hk
    go_enter Try.func70, Try.ntmps70
    go_wp2_with fail
    go_ret
    exact ⟨ret_bool (by first | (simp; done) | (simp; omega)), hB⟩
  · clear hk
    go_enter Try.func70, Try.ntmps70
    go_wp2_with fail
    go_ret
    exact ⟨rfl, hB⟩
set_option maxHeartbeats 800000 in
theorem isFull_any (n : Nat) (xs : List Int) (base : Nat) (r : Array Value) (k : Nat) (w : World) (hL : labB n xs = true) (hrv : RoomsV w base n xs r) (hk : k < (ci n).length) :
    Calls Try.prog 73 #[.agg r, .int .i64 k] w fun e w' => e = .returned (.bool (fullB xs n k)) ∧ Below w.heap.size w w' := by
  obtain ⟨hsz, -⟩ := rooms_row hL hrv
  have hB := balloc (Below.refl w.heap.size w) (.cells r 66)
  have hg1 : Hid ((w.alloc (.cells r 66)).heap[w.heap.size]? = some (.cells r 66 (0, 0))) := Lib.hid (heap_alloc_new w _)
  have HD := Lib.hid (doorsOf_any n xs base r k _ hL (rooms_now hrv hB) hk)
  have HF := Lib.hid (full_eq n k xs hL hk)
  have hlen : ((cpairs n k).filter (drB xs)).length ≤ 3 := Nat.le_trans (List.length_filter_le _ _) (by simp [cpairs])
  clear hL hrv
  go_enter Try.func73, Try.ntmps73
  go_wp2_with ((with_reducible refine load_rm_g ?_ _ rfl w.heap.size ?_ r hg1.out hsz ?_); exact rfl; exact rfl; simp only [Act.put, List.setIfInBounds_toArray, List.set_cons_zero, List.set_cons_succ])
  refine HD.out.mono ?_
  rintro e w2 ⟨v, rfl, hp, hb2⟩
  obtain ⟨a, cap, b, rfl, -⟩ := pair_shape hp
  have hB2 := bnext hB hb2
  clear hp hb2 hB
  generalize hm : ((cpairs n k).filter (drB xs)).length = m at hlen ⊢
  rw [hm] at HF
  clear hm
  match m, hlen with
  | 0, _ | 1, _ | 2, _ | 3, _ =>
    go_wp2_with fail
    go_ret
    refine ⟨?_, hB2⟩
    rw [← HF.out]
    rfl
set_option maxHeartbeats 800000 in
theorem implIsFull (n : Int) (xs : List Int) (k : Int) (a : Option Addr) (b len cap : Nat) (w : World) (hn : xs.length = len) (hsm : len ≤ 1048576) (h : Rd w a b 0 xs) (hb0 : len = 0 ∨ b < w.heap.size) :
    Calls Try.prog 37 #[.int .i64 n, .slice a len cap, .int .i64 k] w fun e w' => e = .returned (.tuple #[.bool (valIsFull n xs k), .bool (okIsFull n xs k)]) ∧ Below w.heap.size w w' := by
  cases hL : labB n xs
  · have H1 : Hid (valIsFull n xs k = false ∧ okIsFull n xs k = false) := Lib.hid (by simp [valIsFull, okIsFull, okCell, hL])
    have HR := Lib.hid (roomsOf_no n xs a b len cap w hn hsm h hb0 hL)
    rw [H1.out.1, H1.out.2]
    clear hL hn h hb0
    go_enter Try.func37, Try.ntmps37
    go_wp2_with fail
    refine HR.out.mono ?_
    rintro e w1 ⟨rfl, hb1⟩
    go_wp2_with (first | (with_reducible refine alloc_rm rfl rfl ?_) | ((with_reducible refine store_rm rfl _ _ rfl w1.heap.size zeroR zeroR ?_ ?_ ?_ zeroR_size zeroR_size zeroR_one w1.heap.size (Nat.le_refl _) ?_); exact rfl; exact rfl; exact heap_alloc_new _ _; intro w3 hg3 hb3; have hB3 := bnext hb1 ((balloc (Below.refl w1.heap.size w1) (.cells zeroR 66)).trans hb3)))
    go_ret2
    exact ⟨rfl, hB3⟩
  · obtain ⟨n, rfl⟩ := labB_nat hL
    obtain ⟨h1, h2, hl, hA⟩ := labB_yes hL
    have hnn64 : n * n ≤ 64 := Nat.mul_le_mul h2 h2
    obtain ⟨hlen, -⟩ := ci_cq n (by omega)
    have HR := Lib.hid (roomsOf_yes n xs a b len cap w hn hsm h hb0 hL)
    have HL := Lib.hid hL
    cases hp : okCell n xs k
    · have H1 : Hid (valIsFull n xs k = false ∧ okIsFull n xs k = false) := Lib.hid (by simp [valIsFull, okIsFull, hp])
      have hk : ¬ (0 ≤ k ∧ k < ((ci n).length : Nat)) := by simpa [okCell, hL] using hp
      have HK := Lib.hid (fun r ca cc w' hr => hasRoom_no n k r ca cc w' hr hk (by omega))
      rw [H1.out.1, H1.out.2]
      clear hL hp hn h hb0 hl hA hk hlen
      go_enter Try.func37, Try.ntmps37
      go_wp2_with fail
      refine HR.out.mono ?_
      rintro e w1 ⟨r, rfl, hrv, hb1⟩
      obtain ⟨hsz, hone, -, -, g, ca, cc, r46, -⟩ := rooms_row HL.out hrv
      go_wp2_with (first | (with_reducible refine alloc_rm rfl rfl ?_) | ((with_reducible refine store_rm rfl _ _ rfl w1.heap.size r zeroR ?_ ?_ ?_ zeroR_size hsz hone w1.heap.size (Nat.le_refl _) ?_); exact rfl; exact rfl; exact heap_alloc_new _ _; intro w3 hg3 hb3; have hB13 := ((balloc (Below.refl w1.heap.size w1) (.cells zeroR 66)).trans hb3)) | ((with_reducible refine not_op rfl _ rfl true ?_ ?_); exact rfl; (with_reducible refine move_op rfl _ rfl ?_); (with_reducible refine load_rm_g ?_ _ rfl w1.heap.size ?_ r hg3 hsz ?_); exact rfl; exact rfl; simp only [Act.put, Act.eval, List.setIfInBounds_toArray, List.set_cons_zero, List.set_cons_succ]))
      refine (HK.out r ca cc _ r46).mono ?_
      rintro e w4 ⟨rfl, hb4⟩
      go_wp2_with fail
      go_ret2
      exact ⟨rfl, bnext (bnext hb1 hB13) hb4⟩
    · have H0 : Hid (okIsFull n xs k = true) := Lib.hid hp
      obtain ⟨n', k, e1, rfl, -, hk⟩ := okCell_yes hp
      have : n = n' := by omega
      subst this
      have H1 : Hid (valIsFull n xs k = fullB xs n k) := Lib.hid (by simp [valIsFull, hp])
      have HK := Lib.hid (fun r ca cc w' hr => hasRoom_yes n k r ca cc w' hr hk (by omega))
      rw [H0.out, H1.out]
      clear hL hp hn h hb0 hl hA e1 hlen
      go_enter Try.func37, Try.ntmps37
      go_wp2_with fail
      refine HR.out.mono ?_
      rintro e w1 ⟨r, rfl, hrv, hb1⟩
      obtain ⟨hsz, hone, -, -, g, ca, cc, r46, -⟩ := rooms_row HL.out hrv
      go_wp2_with (first | (with_reducible refine alloc_rm rfl rfl ?_) | ((with_reducible refine store_rm rfl _ _ rfl w1.heap.size r zeroR ?_ ?_ ?_ zeroR_size hsz hone w1.heap.size (Nat.le_refl _) ?_); exact rfl; exact rfl; exact heap_alloc_new _ _; intro w3 hg3 hb3; have hB13 := ((balloc (Below.refl w1.heap.size w1) (.cells zeroR 66)).trans hb3)) | ((with_reducible refine not_op rfl _ rfl true ?_ ?_); exact rfl; (with_reducible refine move_op rfl _ rfl ?_); (with_reducible refine load_rm_g ?_ _ rfl w1.heap.size ?_ r hg3 hsz ?_); exact rfl; exact rfl; simp only [Act.put, Act.eval, List.setIfInBounds_toArray, List.set_cons_zero, List.set_cons_succ]))
      refine (HK.out r ca cc _ r46).mono ?_
      rintro e w4 ⟨rfl, hb4⟩
      have hz3 : w1.heap.size < w3.heap.size := by have := hb3.size; simp at this; omega
      have hg4 : Hid (w4.heap[w1.heap.size]? = some (.cells r 66 (0, 0))) := Lib.hid ((hb4.block _ hz3).trans hg3)
      have hB14 := bnext hB13 hb4
      have hrv4 := rooms_now hrv hB14
      clear hg3 hb3 hb4 hB13 hrv r46
      go_wp2_with ((with_reducible refine load_rm_g ?_ _ rfl w1.heap.size ?_ r hg4.out hsz ?_); exact rfl; exact rfl; simp only [Act.put, List.setIfInBounds_toArray, List.set_cons_zero, List.set_cons_succ])
      refine (isFull_any n xs _ r k _ HL.out hrv4 hk).mono ?_
      rintro e w5 ⟨rfl, hb5⟩
      go_wp2_with fail
      go_ret2
      exact ⟨rfl, bnext (bnext hb1 hB14) hb5⟩
end Go.Proofs.Ytjbdhgomcchoaaa
