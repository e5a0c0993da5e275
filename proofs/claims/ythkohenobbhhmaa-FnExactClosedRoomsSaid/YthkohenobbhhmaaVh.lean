import Derived.Test.YthkohenobbhhmaaVg
namespace Go.Proofs.Ythkohenobbhhmaa
open Go.RowKit
set_option maxRecDepth 4000
theorem mix_store_blk {ops : Array Oper} {S : World → Prop} {Q : Exit → Act → World → Prop} {sole rest : List Nat} {a : Act} {w : World} {ty : TypeId} {n : Nat} (bk : Blk ty n) (i : Nat) (o : Oper) (hi : sole.contains i = true) (ho : ops[i]? = some o) (hgd : o.guard = none) (x y : Operand) (hop : o.op = .store ty x y) (d : Option Tmp) (hd : o.dst = d)
    (g : Nat) (cells old : Array Value) (hx : a.eval x = .pointer (some ⟨g, 0, none⟩)) (hy : a.eval y = .agg cells)
    (hg : w.heap[g]? = some (.cells old ty (0, 0))) (hold : old.size = n) (hc : cells.size = n) (h1 : cells.all (·.oneCell') = true) (B : Nat) (hB : B ≤ g)
    (h : ∀ w', w'.heap[g]? = some (.cells cells ty (0, 0)) → Below B w w' → (∀ k, k ≠ g → w'.heap[k]? = w.heap[k]?) → w'.heap.size = w.heap.size → S w' ∧ wpMix Try.prog ops S Q sole rest (a.put d undef) w') : wpMix Try.prog ops S Q sole (i :: rest) a w := by
  subst hd
  refine mix_sole i o hi ho (fun K' hK => ?_)
  rw [if_pos (by simp [Region.wanted, hgd])]
  refine wp_store_row _ x y hop g cells hx hy _ old hg (by rw [bk.size, hc]) (by omega) h1 ?_
  exact hK _ _ (h _ (setRow_heap w g old cells _ _ hg) (below_setRow (Below.refl _ _) hB _) (fun k hk => by
    simp only [World.setRow, Array.getElem?_modify]
    rw [if_neg (fun e => hk e.symm)]) (by simp [World.setRow]))
set_option maxHeartbeats 1600000 in
theorem walkFromFull_any (n : Nat) (xs : List Int) (base : Nat) (r : Array Value) (k : Nat) (w : World) (hL : labB n xs = true) (hrv : RoomsV w base n xs r) (hk : k < (ci n).length) (hf : fullB xs n k = true) :
    Calls Try.prog 49 #[.agg r, .int .i64 k] w (Walked w r (wF xs n k)) := by
  obtain ⟨hd1, hd2, hd3⟩ := full_door hL hk hf
  obtain ⟨hsz, hone, -⟩ := rooms_row hL hrv
  have HL := Lib.hid hL
  have HRV := Lib.hid (fun w' (hb : Below w.heap.size w w') => rooms_now hrv hb)
  have HD1 : Hid ((cpairs n k).filter (drB xs) = [dF xs n k]) := Lib.hid hd1
  have HG := Lib.hid hd2
  generalize hW : wF xs n k = W
  have HW : Hid (wfrom xs n (k : Int) (dF xs n k) = W) := Lib.hid hW
  clear hL hrv hd1 hd2 hW hf
  generalize dF xs n k = p at HD1 HG hd3 HW
  obtain ⟨p1, p2⟩ := p
  obtain ⟨L, D, f⟩ := W
  have W2 : Below w.heap.size w ((w.alloc (.cells r 52)).alloc (.cells zeroW 56)) := balloc (balloc (Below.refl _ _) _) _
  have hg1 : ((w.alloc (.cells r 52)).alloc (.cells zeroW 56)).heap[w.heap.size]? = some (.cells r 52 (0, 0)) := by
    rw [Below.heap_alloc _ _ _ (by simp)]
    exact heap_alloc_new w _
  have hz1 : ((w.alloc (.cells r 52)).alloc (.cells zeroW 56)).heap[w.heap.size + 1]? = some (.cells zeroW 56 (0, 0)) := by
    have e := heap_alloc_new (w.alloc (.cells r 52)) (.cells zeroW 56)
    rwa [World.size_alloc] at e
  have hs1 : ((w.alloc (.cells r 52)).alloc (.cells zeroW 56)).heap.size = w.heap.size + 2 := by simp
  go_enter Try.func49, Try.ntmps49
  go_wp2_with ((with_reducible refine alloc_blk zeroW run_alloc_wk rfl rfl ?_); simp only [World.size_alloc, Act.put, List.setIfInBounds_toArray, List.set_cons_zero, List.set_cons_succ])
  generalize ((w.alloc (.cells r 52)).alloc (.cells zeroW 56)) = w1 at W2 hg1 hz1 hs1 ⊢
  refine wp_region_mix (fun w' => Below w.heap.size w w' ∧ w'.heap[w.heap.size]? = some (.cells r 52 (0, 0))) [4, 6, 7, 8] [0, 1, 2, 3, 4, 5, 6, 7, 8] (by kernel_rfl) (by kernel_rfl) (fun _ _ d _ _ h => by cases d <;> exact h) (by kernel_rfl) rfl ⟨W2.drew, hg1⟩ ?_
  refine mix_take 0 _ (.agg r) rfl rfl rfl (some 5) rfl (fun w' hw' => exec_row _ _ rfl w.heap.size rfl r (run_loadVar_row w' _ _ _ r (0, 0) _ hw'.2 Try.underlying52 rfl (by rw [rmSize, hsz]))) ?_
  simp only [Act.put, List.setIfInBounds_toArray, List.set_cons_zero, List.set_cons_succ]
  refine mix_take 1 _ ?_ rfl rfl rfl (some 6) rfl (fun w' hw' => ?hv1) ?_
  case hv1 =>
    go_simp
    with_reducible rfl
  simp only [Act.put, List.setIfInBounds_toArray, List.set_cons_zero, List.set_cons_succ]
  refine mix_take 2 _ (.agg r) rfl rfl rfl (some 7) rfl (fun w' hw' => exec_row _ _ rfl w.heap.size rfl r (run_loadVar_row w' _ _ _ r (0, 0) _ hw'.2 Try.underlying52 rfl (by rw [rmSize, hsz]))) ?_
  simp only [Act.put, List.setIfInBounds_toArray, List.set_cons_zero, List.set_cons_succ]
  refine mix_take 3 _ ?_ rfl rfl rfl (some 8) rfl (fun w' hw' => ?hv3) ?_
  case hv3 =>
    go_simp
    with_reducible rfl
  simp only [Act.put, List.setIfInBounds_toArray, List.set_cons_zero, List.set_cons_succ]
  refine mix_call 4 _ rfl rfl rfl 53 #[.agg r, .int .i64 k] (some 9) rfl ?hr4 ?_
  case hr4 => go_simp
  refine (doorsOf_any n xs base r k _ HL.out (HRV.out _ W2.drew) hk).mono ?_
  rintro e w2 ⟨v, rfl, hp, hb2⟩
  rw [HD1.out] at hp
  obtain ⟨da, dc, db, rfl, hrd⟩ := pair_shape hp
  obtain ⟨rfl, hdb, c0, c1⟩ := hrd 0 (by simp)
  have hB2 : Below w.heap.size w w2 := W2.drew.trans (hb2.mono (by show w.heap.size ≤ w1.heap.size; omega))
  have hg2 := (hb2.block w.heap.size (by show _ < w1.heap.size; omega)).trans hg1
  have hz2 := (hb2.block (w.heap.size + 1) (by show _ < w1.heap.size; omega)).trans hz1
  have hs2 : w1.heap.size ≤ w2.heap.size := hb2.size
  rw [Nat.zero_mul] at c0 c1
  simp only [List.getD_cons_zero, Nat.zero_add] at c0 c1
  have hl1 : [(p1, p2)].length = 1 := rfl
  rw [hl1]
  refine ⟨_, rfl, ⟨hB2, hg2⟩, ?_⟩
  simp only [Act.put, List.setIfInBounds_toArray, List.set_cons_zero, List.set_cons_succ]
  refine mix_take 5 _ ?_ rfl rfl rfl (some 10) rfl (fun w' hw' => ?hv5) ?_
  case hv5 =>
    go_simp
    with_reducible rfl
  simp only [Act.put, List.setIfInBounds_toArray, List.set_cons_zero, List.set_cons_succ]
  refine mix_val 6 _ ?_ rfl rfl rfl (some 11) rfl ?hv6 ⟨⟨hB2, hg2⟩, ?_⟩
  case hv6 =>
    go_simp
    with_reducible rfl
  simp only [Act.put, List.setIfInBounds_toArray, List.set_cons_zero, List.set_cons_succ]
  refine mix_call 7 _ rfl rfl rfl 43 #[.agg r, .int .i64 k, .agg #[.int .i64 p1, .int .i64 p2]] (some 12) rfl ?hr7 ?_
  case hr7 => go_simp
  refine (walkFrom_any n xs base r (k : Int) p1 p2 w2 HL.out (HRV.out _ hB2) HG.out).mono ?_
  rw [HW.out]
  rintro e w3 ⟨pv, u, v, rfl, ho3, hin, hb3⟩
  have ho3 := own_num ho3 (ints_len L).symm
  obtain ⟨-, pa, pc, pb, rfl, -⟩ := own_shape ho3
  have hB3 := bnext hB2 hb3
  have hg3 := (hb3.block w.heap.size (by omega)).trans hg2
  have hz3 := (hb3.block (w.heap.size + 1) (by omega)).trans hz2
  have hs3 := hb3.size
  have hwz : Hid ((wkA r (.slice pa (ints L).length pc) u v f).size = 52 ∧ (wkA r (.slice pa (ints L).length pc) u v f).all (·.oneCell') = true) := Lib.hid ⟨wkA_size _ _ _ _ _ hsz, wkA_one _ _ _ _ _ _ _ hone⟩
  refine ⟨_, rfl, ⟨hB3, hg3⟩, ?_⟩
  simp only [Act.put, List.setIfInBounds_toArray, List.set_cons_zero, List.set_cons_succ]
  refine mix_store_blk blkWalk 8 _ rfl rfl rfl _ _ rfl none rfl (w.heap.size + 1) (wkA r (.slice pa (ints L).length pc) u v f) zeroW rfl rfl hz3 zeroW_size hwz.out.1 hwz.out.2 w.heap.size (by omega) ?_
  intro w4 hg4 hb4 hk4 hs4
  refine ⟨⟨hB3.trans hb4, (hk4 w.heap.size (by omega)).trans hg3⟩, ?_⟩
  simp only [Act.put]
  refine mix_done ?_
  have ho4 := own_keep ho3 (fun q hq => hk4 q (by have := (ho3.lt q hq).1; omega))
  have hle : w.heap.size ≤ w2.heap.size := by omega
  simp only at hin
  go_wp2_with fail
  exact bodyPost_ret (results_blk1 blkWalk rfl _ _ (w.heap.size + 1) _ rfl hg4 hwz.out.1) rfl ⟨_, u, v, rfl, own_num (own_base ho4 hle) (ints_len L), hin, hB3.trans hb4⟩
end Go.Proofs.Ythkohenobbhhmaa
