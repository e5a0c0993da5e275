import Derived.Test.YtjohjiknngagiaaK1
import Derived.Test.YtjohjiknngagiaaZa
import Derived.Test.YtjohjiknngagiaaKh
namespace Go.Proofs.Ytjohjiknngagiaa
open Go.RowKit
set_option maxRecDepth 4000
theorem itmInfo : (Try.prog.info? 71).map (fun i => (i.zero, i.size, i.bytes)) = some (some (.int .i64 0), 1, 8) := by kernel_rfl
/-- One set more at the end of a slice of the call's own. -/
theorem append_itm {ops : Array Oper} {rest : List Oper} {o : Oper} {a : Act} {Q : Exit → Act → World → Prop} (base : Nat) (w0 : World) (v : Value) (xs : List Int) (x : Int)
    (hgd : o.guard = none) (s y : Operand) (ho : o.op = .call { callee := .builtin .append, args := #[s, y], argTypes := #[46, 46] })
    (hs : a.eval s = v) (hx : a.eval y = .slice (some ⟨w0.heap.size, 0, none⟩) 1 1)
    (hown : w0.ownsRow base 71 1 v xs.length (xs.map (Value.int .i64))) (hbase : base ≤ w0.heap.size) (hlen : xs.length < 1000000000000)
    (h : ∀ v' w', w'.ownsRow base 71 1 v' (xs ++ [x]).length ((xs ++ [x]).map (Value.int .i64)) → Below base w0 w' → wpList Try.prog ops Q rest (a.put o.dst v') w') :
    wpList Try.prog ops Q (o :: rest) a (w0.alloc (.cells #[.int .i64 x] 71)) := by
  obtain ⟨i0, hi, hz0, hz1, hz2⟩ := info_parts itmInfo
  refine wpList_append_own _ hgd s y 46 ho base 71 i0 (.int .i64 0) 1 8 Try.underlying45 hi hz0 hz1 hz2 rfl (by decide) v xs.length _ hs (hown.alloc _) ⟨w0.heap.size, 0, none⟩ 1 1 [.int .i64 x] hx rfl ?_ ?_ ?_ ?_ ?_ ?_
  · intro j u hj
    match j, hj with
    | 0, hj => simp at hj; subst hj; simp [Addr.add]
  · intro u hu; simp at hu; subst hu; rfl
  · unfold maxLen; omega
  · omega
  · simp; omega
  · intro v' w1 hown' hgrow _
    refine h v' w1 (by simpa using hown') ?_
    exact ((Below.refl base w0).alloc hbase _).grown hgrow (by simp; omega) (fun k hk => (hown.lt k hk).1)
set_option maxHeartbeats 400000 in
theorem knGraph_no (n k : Int) (h : ¬ (1 ≤ n ∧ n ≤ 8 ∧ 1 ≤ k ∧ k ≤ n)) (w : World) :
    Calls Try.prog 35 #[.int .i64 n, .int .i64 k] w fun e w' => e = .returned (.tuple #[.agg #[.slice none 0 0, .int .i64 0, .int .i64 0], .bool false]) ∧ Below w.heap.size w w' := by
  by_cases h1 : k < 1
  · clear h
    go_enter Try.func35, Try.ntmps35
    go_wp2_with fail
    go_returns
    exact ⟨rfl, by go_grown⟩
  · by_cases h2 : n < k
    · clear h
      go_enter Try.func35, Try.ntmps35
      go_wp2_with fail
      go_returns
      exact ⟨rfl, by go_grown⟩
    · have h3 : ¬ n ≤ 8 := by omega
      clear h
      have h4 : 8 < n := by omega
      go_enter Try.func35, Try.ntmps35
      go_wp2_with fail
      go_returns
      exact ⟨rfl, by go_grown⟩
theorem blkKG : Blk 48 3 := ⟨by first | exact .inl ⟨_, Try.underlying48⟩ | exact .inr ⟨_, _, Try.underlying48⟩, by kernel_rfl⟩
set_option maxHeartbeats 1600000 in
theorem knGraph_yes (n k : Nat) (h1 : 1 ≤ k) (h2 : k ≤ n) (h3 : n ≤ 8) (w : World) :
    Calls Try.prog 35 #[.int .i64 n, .int .i64 k] w fun e w' => ∃ v, e = .returned (.tuple #[.agg #[v, .int .i64 n, .int .i64 k], .bool true]) ∧ w'.ownsRow w.heap.size 71 1 v (kI n k).length ((kI n k).map (Value.int .i64)) ∧ Below w.heap.size w w' := by
  obtain ⟨N, hN⟩ : ∃ N : Nat, N = 2 ^ n := ⟨_, rfl⟩
  have HNw : wrap64 ((2 : Int) ^ n) = (N : Int) := by
    subst hN; clear h1 h2
    have h9 : n < 9 := by omega
    clear h3
    revert n; decide +kernel
  have hN256 : N ≤ 256 := by
    rw [hN]; clear HNw hN h1 h2
    have h9 : n < 9 := by omega
    clear h3
    revert n; decide +kernel
  have hE : Hid (kI n k = flt (isK k) N) := Lib.hid (by rw [hN]; rfl)
  have d1 : decide ((k : Int) < 1) = false := by simp; omega
  have d2 : decide (n < k) = false := by simp; omega
  have d3 : decide ((8 : Int) < n) = false := by simp; omega
  have h31 : ¬ (8 : Int) < n := by omega
  obtain ⟨w1, hw1⟩ : ∃ w1, w1 = (w.alloc (Obj.cells #[Value.slice none 0 0, Value.int IntKind.i64 0, Value.int IntKind.i64 0] 48)).alloc (Obj.cells #[Value.slice none 0 0, Value.int IntKind.i64 n, Value.int IntKind.i64 k] 48) := ⟨_, rfl⟩
  have hb1 : Below w.heap.size w w1 := by rw [hw1]; exact balloc (balloc (Below.refl w.heap.size w) _) _
  have hz1 : w1.heap.size = w.heap.size + 2 := by rw [hw1]; simp
  have g1 : w1.heap[w.heap.size + 1]? = some (.cells #[Value.slice none 0 0, Value.int IntKind.i64 n, Value.int IntKind.i64 k] 48 (0, 0)) := by
    rw [hw1]; exact heap_alloc2_new _ _ _
  have g0 : w1.heap[w.heap.size]? = some (.cells #[Value.slice none 0 0, Value.int IntKind.i64 0, Value.int IntKind.i64 0] 48 (0, 0)) := by
    rw [hw1]; exact heap_alloc2_old _ _ _
  have HW := Lib.hid hw1
  clear hw1 hN
  go_enter Try.func35, Try.ntmps35
  go_wp2_with fail
  rw [← HW.out]
  go_loopw [25] (fun v25 wr => ∃ i : Nat, i ≤ N ∧ v25 = .int .i64 i ∧ ∃ v, wr.ownsRow (w.heap.size + 2) 71 1 v (flt (isK k) i).length ((flt (isK k) i).map (Value.int .i64)) ∧ wr.heap[w.heap.size + 1]? = some (.cells #[v, Value.int IntKind.i64 n, Value.int IntKind.i64 k] 48 (0, 0)) ∧ wr.heap[w.heap.size]? = some (.cells #[Value.slice none 0 0, Value.int IntKind.i64 0, Value.int IntKind.i64 0] 48 (0, 0)) ∧ Below w.heap.size w wr ∧ w.heap.size + 2 ≤ wr.heap.size) (fun v25 _ => N - (intOf v25).toNat)
  case atStart => exact ⟨0, Nat.zero_le _, rfl, _, World.ownsRow_nil _ _ _ _, g1, g0, hb1, by omega⟩
  case round =>
    clear g1 g0 hb1 hz1
    obtain ⟨i, hi, rfl, v, ho, g1, g0, hb, hz⟩ := hrel
    obtain ⟨wq, rfl⟩ : ∃ wq : World, wq = wr := ⟨_, rfl⟩
    by_cases hlt : i < N
    · have hii : (i : Int) < (N : Int) := by omega
      by_cases hk : pop i = k
      · have hkb : ((pop i : Nat) : Int) == (k : Int) := by simp [hk]
        have HF := Lib.hid (flt_yes (isK k) i (by simp [isK, hk]))
        have HL := Lib.hid (flt_len (isK k) i)
        have c0 : wq.cell? ⟨w.heap.size + 1, 0, none⟩ = some v := blk_cell g1 0 v rfl
        have HO := Lib.hid ho
        have HG1 := Lib.hid g1
        have HG0 := Lib.hid g0
        have HB := Lib.hid hb
        clear ho g1 g0 hb hk
        generalize flt (isK k) i = xs at *
        obtain ⟨ys, hys⟩ : ∃ ys, ys = xs ++ [(i : Int)] := ⟨_, rfl⟩
        have HYS := Lib.hid hys
        have HFY : Hid (flt (isK k) (i + 1) = ys) := Lib.hid (HF.out.trans hys.symm)
        clear hys
        go_wp2_with fail
        refine (size8_any i (by omega) _).mono ?_
        rintro e w' ⟨rfl, rfl⟩
        go_wp2_with (at_builtin; go_loud (refine append_itm (w.heap.size + 2) wq _ xs _ rfl _ _ rfl rfl rfl HO.out hz (by have := HL.out; omega) ?_; intro v' w3 ho3 hb3; rw [← HYS.out] at ho3; have g3 := hp_keep HG1.out hb3 (by omega); obtain ⟨-, pa, pc, pb, rfl, -, -⟩ := own_shape ho3; have k3 : w3.cell? ⟨w.heap.size + 1, 0, none⟩ = some v := blk_cell g3 0 v rfl; have e3 := hp_froz g3 0))
        have hz3 := hb3.size
        go_roundw
        case rel =>
          refine ⟨i + 1, by omega, by go_num, .slice pa ys.length pc, ?_, ?_, ?_, ?_, ?_⟩
          · rw [HFY.out]; exact hp_own ho3 (by omega) _
          · exact (hp_put (k := 0) g3 (.slice pa ys.length pc))
          · exact hp_oth (hp_keep HG0.out hb3 (by omega)) (by omega) _
          · exact (HB.out.trans (hb3.mono (by omega))).setCell (by show w.heap.size ≤ w.heap.size + 1; omega) _
          · rw [hp_size]; omega
        case measure => simp [intOf]; omega
      · have hkb : (((pop i : Nat) : Int) == (k : Int)) = false := by simp; omega
        have HF := Lib.hid (flt_no (isK k) i (by simp [isK, hk]))
        have HO := Lib.hid ho
        have HG1 := Lib.hid g1
        have HG0 := Lib.hid g0
        have HB := Lib.hid hb
        clear ho g1 g0 hb hk
        generalize flt (isK k) i = xs at *
        go_wp2_with fail
        refine (size8_any i (by omega) _).mono ?_
        rintro e w' ⟨rfl, rfl⟩
        go_wp2_with fail
        go_roundw
        case rel => exact ⟨i + 1, by omega, by go_num, v, by rw [HF.out]; exact HO.out, HG1.out, HG0.out, HB.out, hz⟩
        case measure => simp [intOf]; omega
    · have hk2 : i = N := by omega
      rw [hk2, ← hE.out] at ho
      obtain ⟨-, va, vc, vb, rfl, -, -⟩ := own_shape ho
      have c0 : wq.cell? ⟨w.heap.size + 1, 0, none⟩ = some (.slice va (kI n k).length vc) := blk_cell g1 0 _ rfl
      have c1 : wq.cell? ⟨w.heap.size + 1, 1, none⟩ = some (.int .i64 n) := blk_cell g1 1 _ rfl
      have c2 : wq.cell? ⟨w.heap.size + 1, 2, none⟩ = some (.int .i64 k) := blk_cell g1 2 _ rfl
      have e0 : wq.cell? ⟨w.heap.size, 0, none⟩ = some (.slice none 0 0) := blk_cell g0 0 _ rfl
      have e1 : wq.cell? ⟨w.heap.size, 1, none⟩ = some (.int .i64 0) := blk_cell g0 1 _ rfl
      have e2 : wq.cell? ⟨w.heap.size, 2, none⟩ = some (.int .i64 0) := blk_cell g0 2 _ rfl
      have f0 := hp_froz g0 0
      have f1 := hp_froz g0 1
      have f2 := hp_froz g0 2
      have HK := Lib.hid hk2
      obtain ⟨wz, hwz⟩ : ∃ wz, wz = ((wq.setCell ⟨w.heap.size, 0, none⟩ (.slice va (kI n k).length vc)).setCell ⟨w.heap.size, 1, none⟩ (.int .i64 n)).setCell ⟨w.heap.size, 2, none⟩ (.int .i64 k) := ⟨_, rfl⟩
      have gz : wz.heap[w.heap.size]? = some (.cells #[.slice va (kI n k).length vc, Value.int IntKind.i64 n, Value.int IntKind.i64 k] 48 (0, 0)) := by
        rw [hwz]; exact hp_put (hp_put (hp_put g0 _) _) _
      have HO : Hid (wz.ownsRow w.heap.size 71 1 (.slice va (kI n k).length vc) (kI n k).length ((kI n k).map (Value.int .i64))) := Lib.hid (by
        rw [hwz]; exact own_base (hp_own (hp_own (hp_own ho (by omega) _) (by omega) _) (by omega) _) (by omega))
      have HB : Hid (Below w.heap.size w wz) := Lib.hid (by
        rw [hwz]; exact ((hb.setCell (Nat.le_refl _) _).setCell (Nat.le_refl _) _).setCell (Nat.le_refl _) _)
      have HZ := Lib.hid hwz
      have GZ := Lib.hid gz
      clear g1 g0 ho hb hk2 hwz gz
      go_wp2_with fail
      rw [← HZ.out]
      exact bodyPost_ret (results_blk blkKG rfl _ _ w.heap.size _ _ rfl rfl GZ.out rfl) rfl ⟨_, rfl, HO.out, HB.out⟩
end Go.Proofs.Ytjohjiknngagiaa
