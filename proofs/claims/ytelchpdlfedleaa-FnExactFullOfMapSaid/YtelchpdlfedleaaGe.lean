import Derived.Test.YtelchpdlfedleaaGd
namespace Go.Proofs.Ytelchpdlfedleaa
open Go.RowKit
set_option maxRecDepth 4000
theorem run_build0_wk (w : World) : (Instr.build 123 #[]).run Try.prog w = .ok (.agg zeroW) w := by kernel_rfl
theorem zeroW_one : zeroW.all (·.oneCell') = true := by decide +kernel
section
variable {ops : Array Oper} {rest : List Oper} {o : Oper} {a : Act} {w : World} {Q : Exit → Act → World → Prop}
theorem build0_wk (hgd : o.guard = none) (ho : o.op = .build 123 #[])
    (h : wpList Try.prog ops Q rest (a.put o.dst (.agg zeroW)) w) : wpList Try.prog ops Q (o :: rest) a w := by
  refine wpList_plain hgd fun K hK => ?_
  unfold Oper.wp
  simp [execOp, ho, run_build0_wk, Result.andThen]
  exact hK _ _ h
end
theorem own_num {w : World} {base e s n m : Nat} {v : Value} {xs : List Value} (h : w.ownsRow base e s v n xs) (hn : n = m) : w.ownsRow base e s v m xs := hn ▸ h
theorem ints_last (pre : List Nat) (l : Nat) : (ints (pre ++ [l])).getD pre.length 0 = (l : Int) := by simp [ints, List.getD]
theorem ints_lastlen (pre : List Nat) (l : Nat) : (ints (pre ++ [l])).length = pre.length + 1 := by rw [ints_len, List.length_append]; rfl
theorem find_mem {α : Type} (ps : List α) (z : α) (k : Nat) (h : k < ps.length) : ps.getD k z ∈ ps := by
  rw [List.getD_eq_getElem?_getD, List.getElem?_eq_getElem h]
  exact List.getElem_mem h
/-- A walk that a function hands back, with a flag. -/
def Walked2 (w : World) (r : Array Value) (R : List Nat × (Int × Int) × Bool) (e : Ending) (w' : World) : Prop :=
  ∃ pv u v, e = .returned (.tuple #[.agg (wkA r pv u v R.2.2), .bool true]) ∧ w'.ownsRow w.heap.size 3 1 pv R.1.length ((ints R.1).map (Value.int .i64)) ∧ inner (u, v) = R.2.1 ∧ Below w.heap.size w w'
/-- Whether the walk from a door of the border ends inside. -/
def ffG (M : Nat) (cp : Nat → List (Int × Int)) (d : Int × Int → Bool) (p : Int × Int) : Bool := (gFrom M cp d (-1) p).2.2
set_option maxHeartbeats 3200000 in
theorem firstInside_any (F : FuncId) (first caps : Array Value) (d : Int × Int → Bool) (cs : List (List Int)) (ps0 : List (Int × Int)) (m base : Nat) (r : Array Value) (w : World) (G : Fgr F d cs ps0 m) (hrw : RmW F first caps d cs ps0 base r w) (hgo : ∀ p ∈ ps0.filter d, gGoes cs.length (cpr cs) d (-1) p) :
    Calls Try.prog 97 #[.agg r] w fun e w' => (e = .returned (.tuple #[.agg zeroW, .bool false]) ∧ (ps0.filter d).find? (ffG cs.length (cpr cs) d) = none ∧ Below w.heap.size w w') ∨
      ∃ p, (ps0.filter d).find? (ffG cs.length (cpr cs) d) = some p ∧ p ∈ ps0.filter d ∧ Walked2 w r (gFrom cs.length (cpr cs) d (-1) p) e w' := by
  obtain ⟨hsz, hone⟩ := rm_size hrw
  have hB0 := balloc (balloc (Below.refl w.heap.size w) (.cells r 115)) (.cells zeroW 123)
  have hg1 : ((w.alloc (.cells r 115)).alloc (.cells zeroW 123)).heap[w.heap.size]? = some (.cells r 115 (0, 0)) := by
    rw [Below.heap_alloc _ _ _ (by simp)]
    exact heap_alloc_new w _
  have hz1 : ((w.alloc (.cells r 115)).alloc (.cells zeroW 123)).heap[w.heap.size + 1]? = some (.cells zeroW 123 (0, 0)) := by
    have e := heap_alloc_new (w.alloc (.cells r 115)) (.cells zeroW 123)
    rwa [World.size_alloc] at e
  have hs1 : ((w.alloc (.cells r 115)).alloc (.cells zeroW 123)).heap.size = w.heap.size + 2 := by simp
  have HRW := Lib.hid (fun w' (hb : Below w.heap.size w w') => hrw.later hb)
  have HG := Lib.hid G
  have HGO := Lib.hid (fun k (hk : k < (ps0.filter d).length) => hgo _ (find_mem (ps0.filter d) (0, 0) k hk))
  have HFM := Lib.hid (fun k (hk : k < (ps0.filter d).length) => find_mem (ps0.filter d) (0, 0) k hk)
  have HFS := Lib.hid (fun k hk h => find_step (0, 0) (ps0.filter d) (ffG cs.length (cpr cs) d) k hk h)
  have hbl : (ps0.filter d).length ≤ 1000 := Nat.le_trans (List.length_filter_le _ _) G.plen
  have HBD := Lib.hid (fun w' (h : RmW F first caps d cs ps0 base r w') => below_doors G h)
  clear G hrw hgo
  generalize ps0.filter d = ps at HGO HFM HFS hbl HBD ⊢
  go_enter Try.func97, Try.ntmps97
  go_wp2_with (first
    | ((with_reducible refine alloc_blk zeroW run_alloc_wk rfl rfl ?_); simp only [World.size_alloc, Act.put, List.setIfInBounds_toArray, List.set_cons_zero, List.set_cons_succ])
    | ((with_reducible refine load_blk blkRms ?_ _ rfl w.heap.size ?_ r hg1 hsz ?_); exact rfl; exact rfl; simp only [Act.put, List.setIfInBounds_toArray, List.set_cons_zero, List.set_cons_succ]))
  generalize (w.alloc (.cells r 115)).alloc (.cells zeroW 123) = w1 at hB0 hg1 hz1 hs1 ⊢
  refine (HBD.out w1 (HRW.out w1 hB0)).mono ?_
  rintro e w4 ⟨v, rfl, hp, hb4⟩
  obtain ⟨da, dc, db, rfl, hrd⟩ := pair_shape hp
  have HRD := Lib.hid hrd
  have hz4 := (hb4.block (w.heap.size + 1) (by omega)).trans hz1
  have hg4 := (hb4.block w.heap.size (by omega)).trans hg1
  have hB4 := bnext hB0 hb4
  have hs4 := hb4.size
  clear hg1 hz1 hb4 hp hrd hB0
  go_wp2_with fail
  go_loopw [10] (fun v10 wr => ∃ k : Nat, k ≤ ps.length ∧ v10 = .int .i64 k ∧ Hid ((ps.take k).find? (ffG cs.length (cpr cs) d) = none) ∧ Below w4.heap.size w4 wr) (fun v10 _ => ps.length - (intOf v10).toNat)
  case atStart => exact ⟨0, Nat.zero_le _, rfl, Lib.hid (by simp), Below.refl _ _⟩
  case round =>
    obtain ⟨k, hk, rfl, hf, hb⟩ := hrel
    have hz := hb.size
    by_cases hlt : k < ps.length
    · obtain ⟨rfl, hbl', c0, c1⟩ := (HRD.out.later hb) k hlt
      have HS := Lib.hid (HFS.out k hlt hf.out)
      have HGK := Lib.hid (HGO.out k hlt)
      have HMK := Lib.hid (HFM.out k hlt)
      have hki : (k : Int) < (ps.length : Int) := by omega
      have HFF : Hid (ffG cs.length (cpr cs) d (ps.getD k (0, 0)) = (gFrom cs.length (cpr cs) d (-1) (ps.getD k (0, 0))).2.2) := Lib.hid rfl
      clear hf
      generalize ps.getD k (0, 0) = p at c0 c1 HS HGK HMK HFF
      obtain ⟨p1, p2⟩ := p
      simp only at c0 c1
      generalize hWW : gFrom cs.length (cpr cs) d (-1) (p1, p2) = W at HFF
      have HWW := Lib.hid hWW
      obtain ⟨L, D, f⟩ := W
      clear hWW
      obtain ⟨wi, hwi⟩ : ∃ wi : World, wi = wr := ⟨_, rfl⟩
      subst hwi
      have hgi := (hb.block w.heap.size (by omega)).trans hg4
      have hzi := (hb.block (w.heap.size + 1) (by omega)).trans hz4
      have hga := (Below.heap_alloc wi (.cells #[.int .i64 p1, .int .i64 p2] 121) w.heap.size (by omega)).trans hgi
      have hza := (Below.heap_alloc wi (.cells #[.int .i64 p1, .int .i64 p2] 121) (w.heap.size + 1) (by omega)).trans hzi
      have hBa := balloc (bnext hB4 hb) (.cells #[.int .i64 p1, .int .i64 p2] 121)
      have hba := hb.alloc hz (.cells #[.int .i64 p1, .int .i64 p2] 121)
      have hsa : (wi.alloc (.cells #[.int .i64 p1, .int .i64 p2] 121)).heap.size = wi.heap.size + 1 := by simp
      clear hb hgi hzi
      go_wp2_with ((with_reducible refine load_blk blkRms ?_ _ rfl w.heap.size ?_ r hga hsz ?_); exact rfl; exact rfl; simp only [Act.put, List.setIfInBounds_toArray, List.set_cons_zero, List.set_cons_succ])
      refine (walkFrom_any F first caps d cs ps0 m base r (-1) p1 p2 _ HG.out (HRW.out _ hBa) HGK.out).mono ?_
      rw [HWW.out]
      rintro e w6 ⟨pv, u, v, rfl, ho6, hin, hb6⟩
      have hB6 := bnext hba hb6
      have hB06 := bnext hBa hb6
      have hs6 := hb6.size
      have hz6 := (hb6.block (w.heap.size + 1) (by omega)).trans hza
      have ho6 := own_num ho6 (ints_len L).symm
      obtain ⟨-, pa, pc, pb, rfl, -⟩ := own_shape ho6
      have hwz : Hid ((wkA r (.slice pa (ints L).length pc) u v f).size = 7 ∧ (wkA r (.slice pa (ints L).length pc) u v f).all (·.oneCell') = true) := Lib.hid ⟨wkA_size _ _ _ _ _ hsz, wkA_one _ _ _ _ _ _ _ hone⟩
      simp only at hin
      have HIN := Lib.hid hin
      have hz6a := (Below.heap_alloc w6 (.cells zeroW 123) (w.heap.size + 1) (by omega)).trans hz6
      clear hin c0 c1 hga hza hBa hba hb6 hz6
      go_wp2_with (first
        | (with_reducible refine alloc_blk zeroW run_alloc_wk rfl rfl ?_)
        | ((with_reducible refine store_blk blkWalk rfl _ _ rfl w6.heap.size (wkA r (.slice pa (ints L).length pc) u v f) zeroW ?_ ?_ ?_ zeroW_size hwz.out.1 hwz.out.2 w6.heap.size (Nat.le_refl _) ?_); exact rfl; exact rfl; exact heap_alloc_new _ _; intro w7 hg7 hb7 hk7 hs7; have hB67 := ((balloc (Below.refl w6.heap.size w6) (.cells zeroW 123)).trans hb7); have hz7 := (hk7 (w.heap.size + 1) (by omega)).trans hz6a; have q6 := blk_cell hg7 6 _ (wk_at hsz _ _ _ _ 3))
        | ((with_reducible refine load_blk blkWalk ?_ _ rfl w6.heap.size ?_ _ hg7 hwz.out.1 ?_); exact rfl; exact rfl; simp only [Act.put, List.setIfInBounds_toArray, List.set_cons_zero, List.set_cons_succ])
        | ((with_reducible refine store_blk blkWalk rfl _ _ rfl (w.heap.size + 1) (wkA r (.slice pa (ints L).length pc) u v f) zeroW ?_ ?_ hz7 zeroW_size hwz.out.1 hwz.out.2 w.heap.size (by omega) ?_); exact rfl; exact rfl; intro w8 hg8 hb8 hk8 hs8))
      · have e := Lib.hid (HS.out.1 (by rw [HFF.out]; assumption))
        have ho7 := own_now ho6 hB67
        have ho8 := own_keep ho7 (fun q hq => hk8 q (by have := (ho7.lt q hq).1; omega))
        have hle : w.heap.size ≤ (wi.alloc (.cells #[.int .i64 p1, .int .i64 p2] 121)).heap.size := by rw [hsa]; omega
        exact bodyPost_ret (results_blk blkWalk rfl _ _ (w.heap.size + 1) _ (.bool true) rfl rfl hg8 hwz.out.1) rfl (.inr ⟨_, e.out, HMK.out, by rw [HWW.out]; exact ⟨_, u, v, rfl, own_num (own_base ho8 hle) (ints_len L), HIN.out, (hB06.trans (hB67.mono (by omega))).trans hb8⟩⟩)
      · have e := Lib.hid (HS.out.2 (by rw [HFF.out]; simpa using ‹_›))
        go_roundw
        case rel => exact ⟨k + 1, by omega, by go_num, e, bnext hB6 hB67⟩
        case measure => simp [intOf]; omega
    · have e : Hid (ps.find? (ffG cs.length (cpr cs) d) = none) := by
        have := hf.out
        rwa [show k = ps.length by omega, List.take_length] at this
      have hzi := (hb.block (w.heap.size + 1) (by omega)).trans hz4
      go_wp2_with (first
        | (with_reducible refine build0_wk rfl rfl ?_)
        | ((with_reducible refine store_blk blkWalk rfl _ _ rfl (w.heap.size + 1) zeroW zeroW ?_ ?_ hzi zeroW_size zeroW_size zeroW_one w.heap.size (by omega) ?_); exact rfl; exact rfl; intro w8 hg8 hb8 hk8 hs8))
      exact bodyPost_ret (results_blk blkWalk rfl _ _ (w.heap.size + 1) _ (.bool false) rfl rfl hg8 zeroW_size) rfl (.inl ⟨rfl, e.out, (bnext hB4 hb).trans hb8⟩)
end Go.Proofs.Ytelchpdlfedleaa
