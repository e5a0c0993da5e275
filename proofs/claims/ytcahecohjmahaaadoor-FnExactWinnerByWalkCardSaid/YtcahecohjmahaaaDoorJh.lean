import Derived.Test.YtcahecohjmahaaaDoorJg
import Derived.Test.YtcahecohjmahaaaDoorMc
namespace Go.Proofs.YtcahecohjmahaaaDoor
open Go.RowKit
set_option maxRecDepth 4000
theorem hset_at {w : World} {g i : Nat} {cur : Array Value} {t : TypeId} (hg : w.heap[g]? = some (.cells cur t (0, 0))) (v : Value) :
    (w.setCell ⟨g, i, none⟩ v).heap[g]? = some (.cells (cur.setIfInBounds i v) t (0, 0)) ∧ (∀ q, q ≠ g → (w.setCell ⟨g, i, none⟩ v).heap[q]? = w.heap[q]?) ∧ (w.setCell ⟨g, i, none⟩ v).heap.size = w.heap.size := by
  rw [setCell_eq_setRow w g i cur t (0, 0) v hg]
  exact ⟨setRow_heap w g cur _ t _ hg, fun q hq => setRow_other w g q _ hq, by simp [World.setRow]⟩
def hslen : Value → Nat
  | .slice _ m _ => m
  | _ => 0
theorem pair_slen {w : World} {base : Nat} {v : Value} {ps : List (Int × Int)} (h : PairV w base v ps) : hslen v = ps.length := by
  obtain ⟨a, cap, b, rfl, -⟩ := pair_shape h
  rfl
theorem pair_one1 {w : World} {base g : Nat} {x y : Int} (hg : base ≤ g) (hh : w.heap[g]? = some (.cells #[.int .i64 x, .int .i64 y] 94 (0, 0))) : PairV w base (.slice (some ⟨g, 0, none⟩) 1 1) [(x, y)] :=
  ⟨by simp [pfl], .inr ⟨g, 1, _, rfl, hg, hh, Nat.le_refl _, by simp [maxLen], rfl, rfl⟩⟩
/-- All that is known of a full board with its rim. -/
structure HCtx (N M S n m s : Nat) (xs : List Int) (L : Nat) (z : Int × Int × Int) : Prop where
  hN : (n : Int) + 2 = N
  hM : (m : Int) + 2 = M
  hNM : N * M = S
  hS : S ≤ 1000
  hnm : n * m = s
  hs : s ≤ 30
  h1 : 1 ≤ n
  h2 : 1 ≤ m
  hl : xs.length = s
  h12 : ∀ x, hown n m xs x = 1 ∨ hown n m xs x = 2
  hL : hst N M (hown n m xs) L = some z
  hz : hthr N M z = none
  hLb : L ≤ 90000
theorem hctx_inv {N M S n m s : Nat} {xs : List Int} {L : Nat} {z : Int × Int × Int} (C : HCtx N M S n m s xs L z) (k : Nat) (t : Int × Int × Int) (h : hst N M (hown n m xs) k = some t) : HInv N M (hown n m xs) t := by
  have h1 := C.h1
  have h2 := C.h2
  have hN := C.hN
  have hM := C.hM
  exact (hst_inv (n := N) (m := M) (by omega) (by omega) C.h12 (hown_0 (by omega)) (by rw [← C.hM]; exact hown_1 (by omega) (by omega)) k t h).1
theorem hctx_go {N M S n m s : Nat} {xs : List Int} {L : Nat} {z : Int × Int × Int} (C : HCtx N M S n m s xs L z) (k : Nat) (hk : k ≤ L) (p q : Nat) (l : Int) (h : hst N M (hown n m xs) k = some ((p : Int), (q : Int), l)) :
    p < S ∧ q < S ∧ ((k = L ∧ hthr N M ((p : Int), (q : Int), l) = none) ∨ (k < L ∧ ∃ x : Nat, x < S ∧ hthr N M ((p : Int), (q : Int), l) = some (x : Int) ∧
      ((hown n m xs x = 1 ∧ hst N M (hown n m xs) (k + 1) = some ((x : Int), (q : Int), (p : Int))) ∨ (hown n m xs x = 2 ∧ hst N M (hown n m xs) (k + 1) = some ((p : Int), (x : Int), (q : Int)))))) := by
  have I := hctx_inv C k _ h
  have hM := C.hM
  have hm0 : (0 : Int) < (M : Int) := by omega
  have e : (N : Int) * (M : Int) = (S : Int) := by rw [← C.hNM]; exact (Int.natCast_mul N M).symm
  have a := pl_bd hm0 I.ga.1 I.ga.2
  have b := pl_bd hm0 I.gb.1 I.gb.2
  rw [e] at a b
  simp only at a b
  refine ⟨by omega, by omega, ?_⟩
  obtain ⟨s', hs', hh⟩ := hst_go C.hL C.hz k hk
  rw [h, Option.some.injEq] at hs'
  subst hs'
  rcases hh with hh | ⟨hlt, x, hx, hn⟩
  · exact .inl hh
  · refine .inr ⟨hlt, ?_⟩
    obtain ⟨x1, -, -⟩ := hthr_some hx
    obtain ⟨c0, c1⟩ := hxa_bd hm0 x1
    rw [e] at c1
    obtain ⟨x, rfl⟩ := Int.eq_ofNat_of_zero_le c0
    refine ⟨x, by omega, hx, ?_⟩
    rw [hn]
    unfold hnx
    rcases C.h12 x with ho | ho
    · exact .inl ⟨ho, by rw [if_pos ho]⟩
    · exact .inr ⟨ho, by rw [if_neg (by omega)]⟩
theorem third_some (N M S g b p q x : Nat) (l : Int) (h2 : 1 ≤ M) (hNM : N * M = S) (hS : S ≤ 1000) (hp : p < S) (hq : q < S) (hx : hthr N M (p, q, l) = some (x : Int)) (w : World) (hv : HxV w) :
    Calls Tryd.prog 123 #[.agg (rimA N M g b), .agg #[.int .i64 p, .int .i64 q], .int .i64 l] w fun e w' => e = .returned (.tuple #[.int .i64 x, .bool true]) ∧ Below w.heap.size w w' := by
  have := third_any N M S g b p q l h2 hNM hS hp hq w hv
  rw [hx] at this
  exact this
theorem third_none (N M S g b p q : Nat) (l : Int) (h2 : 1 ≤ M) (hNM : N * M = S) (hS : S ≤ 1000) (hp : p < S) (hq : q < S) (hx : hthr N M (p, q, l) = none) (w : World) (hv : HxV w) :
    Calls Tryd.prog 123 #[.agg (rimA N M g b), .agg #[.int .i64 p, .int .i64 q], .int .i64 l] w fun e w' => e = .returned (.tuple #[.int .i64 0, .bool false]) ∧ Below w.heap.size w w' := by
  have := third_any N M S g b p q l h2 hNM hS hp hq w hv
  rw [hx] at this
  exact this
set_option maxHeartbeats 3200000 in
theorem rimWalk_any (N M S g b n m s L : Nat) (z : Int × Int × Int) (xs : List Int) (C : HCtx N M S n m s xs L z) (w : World) (hv : HxV w) (hR : RimB w N M g b n m xs) :
    Calls Tryd.prog 73 #[.agg (rimA N M g b)] w fun e w' => ∃ v, e = .returned v ∧ PairV w' w.heap.size v (hdl N M (hown n m xs) (L + 1)) ∧ Below w.heap.size w w' := by
  have hM1 : 1 ≤ M := by have := C.hM; omega
  have HGO := Lib.hid (fun k hk p q l h => hctx_go C k hk p q l h)
  have HV := Lib.hid (fun w' (hb : Below w.heap.size w w') => hxv_later hv hb)
  have HOW := Lib.hid (fun (x : Nat) (hx : x < S) w' (hb : Below w.heap.size w w') => owner_any N M S n m s g b x xs C.hN C.hM C.hNM C.hS C.hnm C.hs C.h1 C.h2 C.hl hx w' (rimB_now hR hb))
  have HTS := Lib.hid (fun p q x l (hp : p < S) (hq : q < S) h w' (hb : Below w.heap.size w w') => third_some N M S g b p q x l hM1 C.hNM C.hS hp hq h w' (hxv_later hv hb))
  have HTN := Lib.hid (fun p q l (hp : p < S) (hq : q < S) h w' (hb : Below w.heap.size w w') => third_none N M S g b p q l hM1 C.hNM C.hS hp hq h w' (hxv_later hv hb))
  have HLB := C.hLb
  have HD := Lib.hid (fun k => hdl_succ (n := (N : Int)) (m := (M : Int)) (own := hown n m xs) k)
  have HDL := Lib.hid (fun k => hdl_len (n := (N : Int)) (m := (M : Int)) (own := hown n m xs) k)
  have hst0 : hst (N : Int) (M : Int) (hown n m xs) 0 = some (((0 : Nat) : Int), (M : Int), -1) := rfl
  have HD1 : Hid (hdl (N : Int) (M : Int) (hown n m xs) 1 = [((0 : Int), (M : Int))]) := Lib.hid rfl
  have HST0 := Lib.hid hst0
  clear hv hR C hst0
  generalize hown n m xs = own at *
  go_enter Tryd.func73, Tryd.ntmps73
  have hr1 : (rimA N M g b)[1]? = some (.int .i64 M) := rfl
  have hB0 := balloc (balloc (balloc (Below.refl w.heap.size w) (.cells (rimA N M g b) 91)) (.cells #[.int .i64 0, .int .i64 M] 94)) (.cells #[.int .i64 0, .int .i64 M] 94)
  have hg0 : (((w.alloc (.cells (rimA N M g b) 91)).alloc (.cells #[.int .i64 0, .int .i64 M] 94)).alloc (.cells #[.int .i64 0, .int .i64 M] 94)).heap[w.heap.size]? = some (.cells (rimA N M g b) 91 (0, 0)) := alloc_keep _ (alloc_keep _ (alloc_at _ _ _ rfl))
  have hp0 : (((w.alloc (.cells (rimA N M g b) 91)).alloc (.cells #[.int .i64 0, .int .i64 M] 94)).alloc (.cells #[.int .i64 0, .int .i64 M] 94)).heap[w.heap.size + 1]? = some (.cells #[.int .i64 0, .int .i64 M] 94 (0, 0)) := alloc_keep _ (alloc_at _ _ _ (by simp))
  have hl0 : (((w.alloc (.cells (rimA N M g b) 91)).alloc (.cells #[.int .i64 0, .int .i64 M] 94)).alloc (.cells #[.int .i64 0, .int .i64 M] 94)).heap[w.heap.size + 2]? = some (.cells #[.int .i64 0, .int .i64 M] 94 (0, 0)) := alloc_at _ _ _ (by simp)
  go_wp2_with fail
  generalize ((w.alloc (.cells (rimA N M g b) 91)).alloc (.cells #[.int .i64 0, .int .i64 M] 94)).alloc (.cells #[.int .i64 0, .int .i64 M] 94) = w0 at hB0 hg0 hp0 hl0 ⊢
  go_loopw [4, 5] (fun v4 v5 wr => ∃ k : Nat, k ≤ L ∧ ∃ (p q : Nat) (l : Int), hst (N : Int) M own k = some ((p : Int), (q : Int), l) ∧ v5 = .int .i64 l ∧ PairV wr (w.heap.size + 2) v4 (hdl N M own (k + 1)) ∧ wr.heap[w.heap.size + 1]? = some (.cells #[.int .i64 p, .int .i64 q] 94 (0, 0)) ∧ wr.heap[w.heap.size]? = some (.cells (rimA N M g b) 91 (0, 0)) ∧ Below w.heap.size w wr) (fun v4 _ _ => L + 1 - hslen v4)
  case atStart => exact ⟨0, Nat.zero_le _, 0, M, -1, HST0.out, rfl, by rw [HD1.out]; exact pair_one1 (Nat.le_refl _) hl0, hp0, hg0, hB0⟩
  case round =>
    clear hB0 hg0 hp0 hl0
    obtain ⟨k, hk, p, q, l, hst, rfl, hpv, hpb, hgb, hB⟩ := hrel
    obtain ⟨hp, hq, hcase⟩ := HGO.out k hk p q l hst
    obtain ⟨wi, hwi⟩ : ∃ wi : World, wi = wr := ⟨_, rfl⟩
    subst hwi
    obtain ⟨sa, sc, sb, rfl, -⟩ := pair_shape hpv
    rcases hcase with ⟨rfl, hno⟩ | ⟨hlt, x, hx, hsome, hnext⟩
    · have HT := Lib.hid (fun w' hb => HTN.out p q l hp hq hno w' hb)
      clear hst hno
      go_wp2_with (first
        | ((with_reducible refine load_blk blkRim ?_ _ rfl w.heap.size ?_ (rimA N M g b) hgb rfl ?_); exact rfl; exact rfl; simp only [Act.put, List.setIfInBounds_toArray, List.set_cons_zero, List.set_cons_succ])
        | ((with_reducible refine load_blk blkPair ?_ _ rfl (w.heap.size + 1) ?_ #[.int .i64 p, .int .i64 q] hpb rfl ?_); exact rfl; exact rfl; simp only [Act.put, List.setIfInBounds_toArray, List.set_cons_zero, List.set_cons_succ]))
      refine (HT.out _ hB).mono ?_
      rintro e w1 ⟨rfl, hb1⟩
      have hpv1 := own_now hpv hb1
      go_wp2_with fail
      go_ret
      exact ⟨_, rfl, own_base hpv1 (by omega), bnext hB hb1⟩
    · have HT := Lib.hid (fun w' hb => HTS.out p q x l hp hq hsome w' hb)
      have HO := Lib.hid (fun w' hb => HOW.out x hx w' hb)
      have HD2 := Lib.hid (HD.out (k + 1))
      have HDL2 := Lib.hid (HDL.out (k + 1))
      clear hst hsome
      go_wp2_with (first
        | ((with_reducible refine load_blk blkRim ?_ _ rfl w.heap.size ?_ (rimA N M g b) hgb rfl ?_); exact rfl; exact rfl; simp only [Act.put, List.setIfInBounds_toArray, List.set_cons_zero, List.set_cons_succ])
        | ((with_reducible refine load_blk blkPair ?_ _ rfl (w.heap.size + 1) ?_ #[.int .i64 p, .int .i64 q] hpb rfl ?_); exact rfl; exact rfl; simp only [Act.put, List.setIfInBounds_toArray, List.set_cons_zero, List.set_cons_succ]))
      refine (HT.out _ hB).mono ?_
      rintro e w1 ⟨rfl, hb1⟩
      have hB1 := bnext hB hb1
      have hpv1 := own_now hpv hb1
      have hpb1 := (hb1.block _ (Array.getElem?_eq_some_iff.1 hpb).1).trans hpb
      have hgb1 := (hb1.block _ (Array.getElem?_eq_some_iff.1 hgb).1).trans hgb
      have c2 : w1.cell? ⟨w.heap.size, 2, none⟩ = some (ofn g b) := blk_cell hgb1 2 _ rfl
      unfold ofn at c2
      clear hpb hgb hpv hb1 hB
      go_wp2_with fail
      refine (HO.out _ hB1).mono ?_
      rintro e w2 ⟨rfl, hb2⟩
      have hB2 := bnext hB1 hb2
      have hpv2 := own_now hpv1 hb2
      have hpb2 := (hb2.block _ (Array.getElem?_eq_some_iff.1 hpb1).1).trans hpb1
      have hgb2 := (hb2.block _ (Array.getElem?_eq_some_iff.1 hgb1).1).trans hgb1
      clear hpb1 hgb1 hpv1 hB1 hb2 c2
      have hz2 : w.heap.size + 1 < w2.heap.size := (Array.getElem?_eq_some_iff.1 hpb2).1
      have d0 := blk_cell hpb2 0 (.int .i64 p) rfl
      have d1 := blk_cell hpb2 1 (.int .i64 q) rfl
      have z0 := frozen_of_row w2 (w.heap.size + 1) 0 _ _ hpb2
      have z1 := frozen_of_row w2 (w.heap.size + 1) 1 _ _ hpb2
      rcases hnext with ⟨ho, hn⟩ | ⟨ho, hn⟩
      · rw [ho]
        have HN := Lib.hid hn
        obtain ⟨f1, f2, f3⟩ := hset_at (i := 0) hpb2 (.int .i64 (x : Int))
        have hB3 := hB2.setCell (p := ⟨w.heap.size + 1, 0, none⟩) (by show w.heap.size ≤ w.heap.size + 1; omega) (.int .i64 (x : Int))
        have hpv3 : PairV (w2.setCell ⟨w.heap.size + 1, 0, none⟩ (.int .i64 (x : Int))) (w.heap.size + 2) _ _ := own_keep hpv2 (fun k hk' => f2 k (by have := (hpv2.lt k hk').1; omega))
        have hgb3 := (f2 w.heap.size (by omega)).trans hgb2
        rw [show (#[Value.int .i64 (p : Int), Value.int .i64 (q : Int)] : Array Value).setIfInBounds 0 (.int .i64 (x : Int)) = #[.int .i64 (x : Int), .int .i64 (q : Int)] from rfl] at f1
        clear ho hn f2 hpv2 hgb2 hpb2 hB2
        go_wp2_with (first
          | ((with_reducible refine load_blk blkPair ?_ _ rfl (w.heap.size + 1) ?_ #[.int .i64 (x : Int), .int .i64 (q : Int)] f1 rfl ?_); exact rfl; exact rfl; simp only [Act.put, List.setIfInBounds_toArray, List.set_cons_zero, List.set_cons_succ])
          | (at_builtin; refine append_pair (w.heap.size + 2) _ _ _ (hdl (N : Int) M own (k + 1)) (x : Int) (q : Int) rfl _ _ rfl rfl rfl (by simp) hpv3 (by have := hB3.size; omega) (by have := HDL2.out; have := HDL.out (k + 1); omega) ?_; intro v' w5 hp5 hb5))
        have hB5 := hB3.trans (hb5.mono (by omega))
        have hdn : hdl (N : Int) M own (k + 1 + 1) = hdl N M own (k + 1) ++ [(((x : Nat) : Int), ((q : Nat) : Int))] := by rw [HD2.out, HN.out]; rfl
        have HDN := Lib.hid hdn
        have f5 := (hb5.block (w.heap.size + 1) (by omega)).trans f1
        have g5 := (hb5.block w.heap.size (by omega)).trans hgb3
        clear hdn
        go_roundw
        case rel => exact ⟨k + 1, by omega, _, _, _, HN.out, rfl, by rw [HDN.out]; exact hp5, f5, g5, hB5⟩
        case measure =>
          have e := HDL.out (k + 1)
          rw [pair_slen hp5, List.length_append]
          show L + 1 - (_ + 1) < L + 1 - (hdl (N : Int) M own (k + 1)).length
          omega
      · rw [ho]
        have HN := Lib.hid hn
        obtain ⟨f1, f2, f3⟩ := hset_at (i := 1) hpb2 (.int .i64 (x : Int))
        have hB3 := hB2.setCell (p := ⟨w.heap.size + 1, 1, none⟩) (by show w.heap.size ≤ w.heap.size + 1; omega) (.int .i64 (x : Int))
        have hpv3 : PairV (w2.setCell ⟨w.heap.size + 1, 1, none⟩ (.int .i64 (x : Int))) (w.heap.size + 2) _ _ := own_keep hpv2 (fun k hk' => f2 k (by have := (hpv2.lt k hk').1; omega))
        have hgb3 := (f2 w.heap.size (by omega)).trans hgb2
        rw [show (#[Value.int .i64 (p : Int), Value.int .i64 (q : Int)] : Array Value).setIfInBounds 1 (.int .i64 (x : Int)) = #[.int .i64 (p : Int), .int .i64 (x : Int)] from rfl] at f1
        clear ho hn f2 hpv2 hgb2 hpb2 hB2
        go_wp2_with (first
          | ((with_reducible refine load_blk blkPair ?_ _ rfl (w.heap.size + 1) ?_ #[.int .i64 (p : Int), .int .i64 (x : Int)] f1 rfl ?_); exact rfl; exact rfl; simp only [Act.put, List.setIfInBounds_toArray, List.set_cons_zero, List.set_cons_succ])
          | (at_builtin; refine append_pair (w.heap.size + 2) _ _ _ (hdl (N : Int) M own (k + 1)) (p : Int) (x : Int) rfl _ _ rfl rfl rfl (by simp) hpv3 (by have := hB3.size; omega) (by have := HDL2.out; have := HDL.out (k + 1); omega) ?_; intro v' w5 hp5 hb5))
        have hB5 := hB3.trans (hb5.mono (by omega))
        have hdn : hdl (N : Int) M own (k + 1 + 1) = hdl N M own (k + 1) ++ [(((p : Nat) : Int), ((x : Nat) : Int))] := by rw [HD2.out, HN.out]; rfl
        have HDN := Lib.hid hdn
        have f5 := (hb5.block (w.heap.size + 1) (by omega)).trans f1
        have g5 := (hb5.block w.heap.size (by omega)).trans hgb3
        clear hdn
        go_roundw
        case rel => exact ⟨k + 1, by omega, _, _, _, HN.out, rfl, by rw [HDN.out]; exact hp5, f5, g5, hB5⟩
        case measure =>
          have e := HDL.out (k + 1)
          rw [pair_slen hp5, List.length_append]
          show L + 1 - (_ + 1) < L + 1 - (hdl (N : Int) M own (k + 1)).length
          omega
end Go.Proofs.YtcahecohjmahaaaDoor
