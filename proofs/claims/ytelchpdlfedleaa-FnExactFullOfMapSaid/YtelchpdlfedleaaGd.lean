import Derived.Test.YtelchpdlfedleaaGc
import Derived.Test.YtelchpdlfedleaaGy
namespace Go.Proofs.Ytelchpdlfedleaa
open Go.RowKit
set_option maxRecDepth 4000
/-- A walk as the program keeps it: the rooms, the slice of those passed, the last door, and whether it is in a full one. -/
def wkA (r : Array Value) (pv : Value) (x y : Int) (f : Bool) : Array Value := r ++ #[pv, .int .i64 x, .int .i64 y, .bool f]
def zeroW : Array Value := wkA rms0 (.slice none 0 0) 0 0 false
theorem wkA_size (r : Array Value) (pv : Value) (x y : Int) (f : Bool) (h : r.size = 3) : (wkA r pv x y f).size = 7 := by simp [wkA, h]
theorem wkA_one (r : Array Value) (a : Option Addr) (m c : Nat) (x y : Int) (f : Bool) (h : r.all (·.oneCell') = true) : (wkA r (.slice a m c) x y f).all (·.oneCell') = true := by
  rw [wkA, Array.all_append, h]
  simp [Value.oneCell']
theorem zeroW_size : zeroW.size = 7 := wkA_size _ _ _ _ _ rfl
theorem blkWalk : Blk 123 7 := ⟨.inl ⟨_, Try.underlying123⟩, by kernel_rfl⟩
theorem run_alloc_wk (w : World) : (Instr.alloc 123 true (.tuple #[])).run Try.prog w = .ok (.pointer (some ⟨w.heap.size, 0, none⟩)) (w.alloc (.cells zeroW 123)) := by kernel_rfl
theorem built_wk (cs : Array Value) (hc : cs.size = 3) (x y : Int) :
    Try.prog.built 123 [(0, .agg cs), (2, .agg #[.int .i64 x, .int .i64 y])] = some (wkA cs (.slice none 0 0) x y false) := by
  have e : cs = Array.ofFn (fun i : Fin 3 => cs.getD i undef) := by
    apply Array.ext
    · simp [hc]
    · intro i h1 h2; simp [Array.getD, h1]
  have H : ∀ c : Fin 3 → Value, Try.prog.built 123 [(0, .agg (Array.ofFn c)), (2, .agg #[.int .i64 x, .int .i64 y])] = some (wkA (Array.ofFn c) (.slice none 0 0) x y false) := by
    intro c
    kernel_rfl
  rw [e]
  exact H _
section
variable {ops : Array Oper} {rest : List Oper} {o : Oper} {a : Act} {w : World} {Q : Exit → Act → World → Prop}
theorem build_wk (hgd : o.guard = none) (x y : Operand) (ho : o.op = .build 123 #[(0, x), (2, y)]) (cs : Array Value) (hc : cs.size = 3) (u v : Int) (hx : a.eval x = .agg cs) (hy : a.eval y = .agg #[.int .i64 u, .int .i64 v])
    (h : wpList Try.prog ops Q rest (a.put o.dst (.agg (wkA cs (.slice none 0 0) u v false))) w) : wpList Try.prog ops Q (o :: rest) a w := by
  refine wpList_plain hgd fun K hK => ?_
  unfold Oper.wp
  have hr := run_build (P := Try.prog) w 123 #[(0, .agg cs), (2, .agg #[.int .i64 u, .int .i64 v])] _ (built_wk cs hc u v)
  simp [execOp, ho, hx, hy, hr, Result.andThen]
  exact hK _ _ h
end
/-- The cells of a walk's block. -/
theorem wk_rooms {r : Array Value} (h : r.size = 3) (pv : Value) (x y : Int) (f : Bool) : ∀ j, j < 3 → (wkA r pv x y f)[0 + j]? = r[j]? := fun j hj => by
  rw [wkA, Nat.zero_add, Array.getElem?_append_left (by omega)]
theorem wk_at {r : Array Value} (h : r.size = 3) (pv : Value) (x y : Int) (f : Bool) (j : Nat) : (wkA r pv x y f)[3 + j]? = (#[pv, .int .i64 x, .int .i64 y, .bool f] : Array Value)[j]? := by
  rw [wkA, Array.getElem?_append_right (by omega), h, Nat.add_sub_cancel_left]
theorem wk_list {r : Array Value} (pv : Value) (x y : Int) (f : Bool) : (wkA r pv x y f).toList = r.toList ++ [pv, .int .i64 x, .int .i64 y, .bool f] := by simp [wkA]
theorem wk_take {r : Array Value} (h : r.size = 3) (pv : Value) (x y : Int) (f : Bool) (j : Nat) : (wkA r pv x y f).toList.take (3 + j) = r.toList ++ [pv, .int .i64 x, .int .i64 y, .bool f].take j := by
  have hl : r.toList.length = 3 := by simpa using h
  rw [wk_list, List.take_append, List.take_of_length_le (by omega), hl, Nat.add_sub_cancel_left]
theorem wk_drop {r : Array Value} (h : r.size = 3) (pv : Value) (x y : Int) (f : Bool) (j : Nat) : (wkA r pv x y f).toList.drop (3 + j) = [pv, .int .i64 x, .int .i64 y, .bool f].drop j := by
  have hl : r.toList.length = 3 := by simpa using h
  rw [wk_list, List.drop_append, List.drop_of_length_le (by omega), hl, Nat.add_sub_cancel_left, List.nil_append]
theorem wk_put_p {r : Array Value} (h : r.size = 3) (pv : Value) (x y : Int) (f : Bool) (a : Option Addr) (m c : Nat) : wkA r (.slice a m c) x y f = ((wkA r pv x y f).toList.take 3 ++ (Value.slice a m c).cells.toList ++ (wkA r pv x y f).toList.drop (3 + 1)).toArray := by
  rw [show (3 : Nat) = 3 + 0 by rfl, wk_take h, wk_drop h]
  simp [wkA, Value.cells]
theorem wk_put_d {r : Array Value} (h : r.size = 3) (pv : Value) (x y u v : Int) (f : Bool) : wkA r pv u v f = ((wkA r pv x y f).toList.take 4 ++ (Value.agg #[.int .i64 u, .int .i64 v]).cells.toList ++ (wkA r pv x y f).toList.drop (4 + 2)).toArray := by
  rw [show (4 : Nat) = 3 + 1 by rfl, wk_take h, show (3 + 1 + 2 : Nat) = 3 + 3 by rfl, wk_drop h]
  simp [wkA, Value.cells]
theorem wk_put_f {r : Array Value} (h : r.size = 3) (pv : Value) (x y : Int) (f g : Bool) : wkA r pv x y g = ((wkA r pv x y f).toList.take 6 ++ (Value.bool g).cells.toList ++ (wkA r pv x y f).toList.drop (6 + 1)).toArray := by
  rw [show (6 : Nat) = 3 + 3 by rfl, wk_take h, show (3 + 3 + 1 : Nat) = 3 + 4 by rfl, wk_drop h]
  simp [wkA, Value.cells]
theorem szPair : (Try.prog.info? 121).map (·.size) = some 2 := by kernel_rfl
/-- How many rooms a walk has passed. -/
def lenAt (w : World) (g : Nat) : Nat := match w.cell? ⟨g, 3, none⟩ with | some (.slice _ m _) => m | _ => 0
theorem lenAt_eq {w : World} {g : Nat} {a : Option Addr} {m c : Nat} (h : w.cell? ⟨g, 3, none⟩ = some (.slice a m c)) : lenAt w g = m := by simp [lenAt, h]
theorem cells_pair (u v : Int) : (Value.agg #[.int .i64 u, .int .i64 v]).cells.size = 2 := rfl
theorem one_pair (u v : Int) : ∀ x ∈ (Value.agg #[.int .i64 u, .int .i64 v]).cells.toList, x.oneCell' = true := by simp [Value.cells, Value.oneCell']
/-- What a walk answers. -/
def Walked (w : World) (r : Array Value) (R : List Nat × (Int × Int) × Bool) (e : Ending) (w' : World) : Prop :=
  ∃ pv u v, e = .returned (.agg (wkA r pv u v R.2.2)) ∧ w'.ownsRow w.heap.size 3 1 pv R.1.length ((ints R.1).map (Value.int .i64)) ∧ inner (u, v) = R.2.1 ∧ Below w.heap.size w w'
theorem walked_of {w w9 : World} {r : Array Value} {L out : List Nat} {R : (Int × Int) × Bool} {pv : Value} {u v : Int} {f : Bool} {base : Nat} (hR : out = L ∧ R = (inner (u, v), f)) (ho : w9.ownsRow base 3 1 pv (ints out).length ((ints out).map (Value.int .i64))) (hb : w.heap.size ≤ base) (hB : Below w.heap.size w w9) :
    Walked w r (L, R) (.returned (.agg (wkA r pv u v f))) w9 := by
  obtain ⟨rfl, rfl⟩ := hR
  exact ⟨pv, u, v, rfl, by rw [ints_len] at ho; exact World.ownsRow.mono ho hb, rfl, hB⟩
set_option maxHeartbeats 3200000 in
theorem walkFrom_any (F : FuncId) (first caps : Array Value) (d : Int × Int → Bool) (cs : List (List Int)) (ps0 : List (Int × Int)) (m base : Nat) (r : Array Value) (fr x y : Int) (w : World) (G : Fgr F d cs ps0 m) (hrw : RmW F first caps d cs ps0 base r w) (hgo : gGoes cs.length (cpr cs) d fr (x, y)) :
    Calls Try.prog 130 #[.agg r, .int .i64 fr, .agg #[.int .i64 x, .int .i64 y]] w (Walked w r (gFrom cs.length (cpr cs) d fr (x, y))) := by
  obtain ⟨hsz, hone⟩ := rm_size hrw
  obtain ⟨s0, L, R, hLR, hat0⟩ := gGoes_at hgo
  rw [hLR]
  clear hLR
  have hxy : x ≠ y := hgo.1
  have HG := Lib.hid G
  have HRV := Lib.hid (fun w' (hb : Below w.heap.size w w') => hrw.later hb)
  have HAT := Lib.hid hat0
  have hbd := G.clen
  clear G hrw hat0 hgo
  have W1 : Below w.heap.size w ((((w.alloc (.cells r 115)).alloc (.cells #[.int .i64 x, .int .i64 y] 121)).alloc (.cells zeroW 123))) := balloc (balloc (balloc (Below.refl w.heap.size w) _) _) _
  have hg1 : ((((w.alloc (.cells r 115)).alloc (.cells #[.int .i64 x, .int .i64 y] 121)).alloc (.cells zeroW 123))).heap[w.heap.size]? = some (.cells r 115 (0, 0)) := by
    rw [Below.heap_alloc _ _ _ (by simp; omega), Below.heap_alloc _ _ _ (by simp)]
    exact heap_alloc_new w _
  have hp1 : ((((w.alloc (.cells r 115)).alloc (.cells #[.int .i64 x, .int .i64 y] 121)).alloc (.cells zeroW 123))).heap[w.heap.size + 1]? = some (.cells #[.int .i64 x, .int .i64 y] 121 (0, 0)) := by
    rw [Below.heap_alloc _ _ _ (by simp)]
    have e := heap_alloc_new (w.alloc (.cells r 115)) (.cells #[.int .i64 x, .int .i64 y] 121)
    rwa [World.size_alloc] at e
  have hz1 : ((((w.alloc (.cells r 115)).alloc (.cells #[.int .i64 x, .int .i64 y] 121)).alloc (.cells zeroW 123))).heap[w.heap.size + 1 + 1]? = some (.cells zeroW 123 (0, 0)) := by
    have e := heap_alloc_new ((w.alloc (.cells r 115)).alloc (.cells #[.int .i64 x, .int .i64 y] 121)) (.cells zeroW 123)
    rwa [World.size_alloc, World.size_alloc] at e
  have hs1 : ((((w.alloc (.cells r 115)).alloc (.cells #[.int .i64 x, .int .i64 y] 121)).alloc (.cells zeroW 123))).heap.size = w.heap.size + 3 := by simp
  have p0 := blk_cell hp1 0 (.int .i64 x) rfl
  have p1 := blk_cell hp1 1 (.int .i64 y) rfl
  have hn2 : (((((w.alloc (.cells r 115)).alloc (.cells #[.int .i64 x, .int .i64 y] 121)).alloc (.cells zeroW 123))).alloc (.cells zeroW 123)).heap[w.heap.size + 3]? = some (.cells zeroW 123 (0, 0)) := by
    have e := heap_alloc_new (((w.alloc (.cells r 115)).alloc (.cells #[.int .i64 x, .int .i64 y] 121)).alloc (.cells zeroW 123)) (.cells zeroW 123)
    rwa [hs1] at e
  have W2 := balloc W1 (.cells zeroW 123)
  have hz2 := (Below.heap_alloc ((((w.alloc (.cells r 115)).alloc (.cells #[.int .i64 x, .int .i64 y] 121)).alloc (.cells zeroW 123))) (.cells zeroW 123) (w.heap.size + 1 + 1) (by omega)).trans hz1
  have hp2 := (Below.heap_alloc ((((w.alloc (.cells r 115)).alloc (.cells #[.int .i64 x, .int .i64 y] 121)).alloc (.cells zeroW 123))) (.cells zeroW 123) (w.heap.size + 1) (by omega)).trans hp1
  have hs2 : (((((w.alloc (.cells r 115)).alloc (.cells #[.int .i64 x, .int .i64 y] 121)).alloc (.cells zeroW 123))).alloc (.cells zeroW 123)).heap.size = w.heap.size + 4 := by simp
  have hwk : (wkA r (.slice none 0 0) x y false).size = 7 := wkA_size _ _ _ _ _ hsz
  have hwo : (wkA r (.slice none 0 0) x y false).all (·.oneCell') = true := wkA_one _ _ _ _ _ _ _ hone
  clear hp1 hz1
  go_enter Try.func130, Try.ntmps130
  go_wp2_with (first
    | ((with_reducible refine alloc_blk zeroW run_alloc_wk rfl rfl ?_); (try rw [hs1]); simp only [World.size_alloc, Act.put, List.setIfInBounds_toArray, List.set_cons_zero, List.set_cons_succ])
    | ((with_reducible refine build_wk rfl _ _ rfl r hsz x y ?_ ?_ ?_); exact rfl; exact rfl; simp only [Act.put, List.setIfInBounds_toArray, List.set_cons_zero, List.set_cons_succ])
    | ((with_reducible refine load_blk blkRms ?_ _ rfl w.heap.size ?_ r hg1 hsz ?_); exact rfl; exact rfl; simp only [Act.put, List.setIfInBounds_toArray, List.set_cons_zero, List.set_cons_succ])
    | ((with_reducible refine store_blk blkWalk rfl _ _ rfl (w.heap.size + 3) (wkA r (.slice none 0 0) x y false) zeroW ?_ ?_ hn2 zeroW_size hwk hwo w.heap.size (by omega) ?_); exact rfl; exact rfl; intro w4 hg4 hb4 hk4 hs4; have q0 := blk_cell ((hk4 (w.heap.size + 1) (by omega)).trans hp2) 0 (.int .i64 x) rfl; have q1 := blk_cell ((hk4 (w.heap.size + 1) (by omega)).trans hp2) 1 (.int .i64 y) rfl)
    | ((with_reducible refine load_win blkRms ?_ _ rfl (w.heap.size + 3) 0 ?_ (wkA r (.slice none 0 0) x y false) r hg4 (wk_rooms hsz _ _ _ _) hsz ?_); exact rfl; exact rfl; simp only [Act.put, List.setIfInBounds_toArray, List.set_cons_zero, List.set_cons_succ]))
  refine (beyond_go F first caps d cs ps0 m base r x y fr w4 HG.out (HRV.out w4 (W2.trans hb4)) hxy).mono ?_
  rintro e w5 ⟨rfl, hb5⟩
  have hz5 := (hb5.block (w.heap.size + 1 + 1) (by omega)).trans ((hk4 _ (by omega)).trans hz2)
  have hg5 := (hb5.block (w.heap.size + 3) (by omega)).trans hg4
  have hB5 : Below w.heap.size w w5 := (W2.trans hb4).trans (hb5.mono (by omega))
  have hs5 : w.heap.size + 4 ≤ w5.heap.size := by have := hb5.size; omega
  have hwz : ∀ pa m pc u v b, Hid ((wkA r (.slice pa m pc) u v b).size = 7 ∧ (wkA r (.slice pa m pc) u v b).all (·.oneCell') = true) := fun pa m pc u v b => Lib.hid ⟨wkA_size _ _ _ _ _ hsz, wkA_one _ _ _ _ _ _ _ hone⟩
  clear hg1 hp2 hn2 hz2 hs1 hs2 p0 p1 q0 q1 hb4 hb5 hk4 hg4 W1 W2 hwk hwo hs4
  go_wp2_with fail
  go_loopw [8] (fun v8 wr => ∃ (out : List Nat) (pv : Value) (u v room : Int), v8 = .int .i64 room ∧ u ≠ v ∧ Hid (gAt cs.length (cpr cs) d s0 L R out room (u, v)) ∧ wr.heap[w.heap.size + 3]? = some (.cells (wkA r pv u v false) 123 (0, 0)) ∧
    wr.heap[w.heap.size + 1 + 1]? = some (.cells zeroW 123 (0, 0)) ∧ wr.ownsRow w5.heap.size 3 1 pv (ints out).length ((ints out).map (Value.int .i64)) ∧ w5.heap.size ≤ wr.heap.size ∧ Below w.heap.size w wr) (fun _ wr => cs.length + 1 - lenAt wr (w.heap.size + 3))
  case atStart => exact ⟨[], .slice none 0 0, x, y, _, rfl, hxy, HAT, hg5, hz5, World.ownsRow_nil _ _ _ _, Nat.le_refl _, hB5⟩
  case round =>
    obtain ⟨out, pv, u, v, room, rfl, huv, hat, hg, hz, ho, hs, hB⟩ := hrel
    obtain ⟨-, pa, pc, pb, rfl, hpx, -⟩ := own_shape ho
    obtain ⟨wi, hwi⟩ : ∃ wi : World, wi = wr := ⟨_, rfl⟩
    subst hwi
    cases hrm : (room != -1)
    · have e : room = -1 := by simpa using hrm
      have hend : out = L ∧ R = (inner (u, v), false) := by
        rcases hat.out with ⟨k, hk, -⟩ | ⟨-, h⟩
        · omega
        · exact h
      have HE := Lib.hid hend
      have q1 := (hwz pa (ints out).length pc u v false).out
      clear e hend hat
      go_wp2_with (first
        | ((with_reducible refine load_blk blkWalk ?_ _ rfl (w.heap.size + 3) ?_ _ hg q1.1 ?_); exact rfl; exact rfl; simp only [Act.put, List.setIfInBounds_toArray, List.set_cons_zero, List.set_cons_succ])
        | ((with_reducible refine store_blk blkWalk rfl _ _ rfl (w.heap.size + 1 + 1) (wkA r (.slice pa (ints out).length pc) u v false) zeroW ?_ ?_ hz zeroW_size q1.1 q1.2 w.heap.size (by omega) ?_); exact rfl; exact rfl; intro w9 hg9 hb9 hk9 hs9))
      exact bodyPost_ret (results_blk1 blkWalk rfl _ _ (w.heap.size + 1 + 1) _ rfl hg9 q1.1) rfl (walked_of HE.out (own_keep ho (fun k hk => hk9 k (by have := (ho.lt k hk).1; omega))) (by omega) (hB.trans hb9))
    · obtain ⟨k, rfl, hk, hol, hin, hno, hso⟩ := gAt_room HG.out.fig hat.out (by simpa using hrm)
      have HNO := Lib.hid hno
      have HSO := Lib.hid hso
      have q48 : wi.cell? ⟨w.heap.size + 3, 3, none⟩ = some (.slice pa (ints out).length pc) := blk_cell hg 3 _ (wk_at hsz _ _ _ _ 0)
      have hlen := lenAt_eq q48
      have HIL := Lib.hid (ints_len out)
      have hil2 : (ints out).length < 2000 := by rw [HIL.out]; omega
      have hsA : w.heap.size + 3 < wi.heap.size := by omega
      clear hat hin hno hso
      go_wp2_with (first
        | (at_builtin; go_loud (refine append_int w5.heap.size wi _ (ints out) _ rfl _ _ rfl rfl rfl ho hs (by omega) ?_; intro v' w6 ho6 hb6; rw [← ints_app] at ho6; obtain ⟨-, pa', pc', pb', rfl, hpx', -⟩ := own_shape ho6; have hg6 := (hb6.block (w.heap.size + 3) (by omega)).trans hg; have hs6 := hb6.size))
        | ((with_reducible refine store_win szInts rfl _ _ rfl (w.heap.size + 3) 3 (.slice pa' (ints (out ++ [k])).length pc') (wkA r (.slice pa (ints out).length pc) u v false) (wkA r (.slice pa' (ints (out ++ [k])).length pc') u v false) ?_ ?_ hg6 (cells_slice _ _ _) ?_ (wk_put_p hsz _ _ _ _ _ _ _) (one_slice _ _ _) w.heap.size (by omega) ?_); exact rfl; exact rfl; rw [wkA_size _ _ _ _ _ hsz]; omega; intro w7 hg7 hb7 hk7 hs7; have q49 := blk_cell hg7 4 _ (wk_at hsz _ _ _ _ 1); have q50 := blk_cell hg7 5 _ (wk_at hsz _ _ _ _ 2))
        | ((with_reducible refine load_win blkRms ?_ _ rfl (w.heap.size + 3) 0 ?_ (wkA r (.slice pa' (ints (out ++ [k])).length pc') u v false) r hg7 (wk_rooms hsz _ _ _ _) hsz ?_); exact rfl; exact rfl; simp only [Act.put, List.setIfInBounds_toArray, List.set_cons_zero, List.set_cons_succ]))
      have hB7 : Below w.heap.size w w7 := (hB.trans (hb6.mono (by omega))).trans hb7
      refine (otherDoor_go F first caps d cs ps0 m base r (k : Int) u v k w7 HG.out (HRV.out w7 hB7) rfl hk).mono ?_
      rintro e w8 ⟨rfl, hb8⟩
      have hg8 := (hb8.block (w.heap.size + 3) (by omega)).trans hg7
      have hz7 := (hk7 (w.heap.size + 1 + 1) (by omega)).trans ((hb6.block (w.heap.size + 1 + 1) (by omega)).trans hz)
      have hz8 := (hb8.block (w.heap.size + 1 + 1) (by omega)).trans hz7
      have ho7 := own_keep ho6 (fun q hq => hk7 q (by have := (ho6.lt q hq).1; omega))
      have ho8 := own_now ho7 hb8
      have hB8 := bnext hB7 hb8
      have hs8 : w5.heap.size ≤ w8.heap.size := by have := hb8.size; omega
      have hs8' : w.heap.size + 4 ≤ w8.heap.size := by omega
      have HL2 : Hid ((ints (out ++ [k])).length = out.length + 1) := Lib.hid (by rw [ints_len, List.length_append]; rfl)
      have hq1 := fun a b f => (hwz pa' (ints (out ++ [k])).length pc' a b f).out
      clear hg hz ho hb6 ho6 hg6 hb7 hg7 hk7 hs7 q48 q49 q50 hb8 hz7 ho7 hB hB7
      cases hod : gOth (cpr cs) d k (inner (u, v)) with
      | none =>
        have HE := Lib.hid (HNO.out hod)
        have hga : (w8.alloc (.cells #[.int .i64 0, .int .i64 0] 121)).heap[w.heap.size + 3]? = some (.cells (wkA r (.slice pa' (ints (out ++ [k])).length pc') u v false) 123 (0, 0)) := (Below.heap_alloc _ _ _ (by omega)).trans hg8
        have hza := (Below.heap_alloc w8 (.cells #[.int .i64 0, .int .i64 0] 121) (w.heap.size + 1 + 1) (by omega)).trans hz8
        have hoa := own_now ho8 (balloc (Below.refl w8.heap.size w8) (.cells #[.int .i64 0, .int .i64 0] 121))
        have hBa := balloc hB8 (.cells #[.int .i64 0, .int .i64 0] 121)
        clear hod HNO HSO hz8 hg8 ho8 hB8
        rw [show fp none = .tuple #[.agg #[.int .i64 0, .int .i64 0], .bool false] from rfl]
        have hfin := fun (wx wy : World) (hk1 : ∀ q, q ≠ w.heap.size + 3 → wx.heap[q]? = (w8.alloc (.cells #[.int .i64 0, .int .i64 0] 121)).heap[q]?) (hk2 : ∀ q, q ≠ w.heap.size + 1 + 1 → wy.heap[q]? = wx.heap[q]?) => own_keep hoa (w' := wy) (fun q hq => (hk2 q (by have := (hoa.lt q hq).1; omega)).trans (hk1 q (by have := (hoa.lt q hq).1; omega)))
        have HFIN := Lib.hid hfin
        clear hfin hoa
        go_wp2_with (first
          | ((with_reducible refine store_win szBool rfl _ _ rfl (w.heap.size + 3) 6 (.bool true) (wkA r (.slice pa' (ints (out ++ [k])).length pc') u v false) (wkA r (.slice pa' (ints (out ++ [k])).length pc') u v true) ?_ ?_ hga (cells_bool _) ?_ (wk_put_f hsz _ _ _ _ _) (one_bool _) w.heap.size (by omega) ?_); exact rfl; exact rfl; rw [wkA_size _ _ _ _ _ hsz]; omega; intro w9 hg9 hb9 hk9 hs9; have hz9 := (hk9 (w.heap.size + 1 + 1) (by omega)).trans hza)
          | ((with_reducible refine load_blk blkWalk ?_ _ rfl (w.heap.size + 3) ?_ _ hg9 (hq1 _ _ _).1 ?_); exact rfl; exact rfl; simp only [Act.put, List.setIfInBounds_toArray, List.set_cons_zero, List.set_cons_succ])
          | ((with_reducible refine store_blk blkWalk rfl _ _ rfl (w.heap.size + 1 + 1) (wkA r (.slice pa' (ints (out ++ [k])).length pc') u v true) zeroW ?_ ?_ hz9 zeroW_size (hq1 _ _ _).1 (hq1 _ _ _).2 w.heap.size (by omega) ?_); exact rfl; exact rfl; intro w10 hg10 hb10 hk10 hs10))
        exact bodyPost_ret (results_blk1 blkWalk rfl _ _ (w.heap.size + 1 + 1) _ rfl hg10 (hq1 _ _ _).1) rfl (walked_of HE.out (HFIN.out w9 w10 hk9 hk10) (by omega) ((hBa.trans hb9).trans hb10))
      | some dd =>
        obtain ⟨hd1, hd2, hat⟩ := HSO.out dd hod
        obtain ⟨d1, d2⟩ := dd
        have HAT2 := Lib.hid hat
        have HD2 := Lib.hid hd2
        simp only at hd1
        have hga : (w8.alloc (.cells #[.int .i64 d1, .int .i64 d2] 121)).heap[w.heap.size + 3]? = some (.cells (wkA r (.slice pa' (ints (out ++ [k])).length pc') u v false) 123 (0, 0)) := (Below.heap_alloc _ _ _ (by omega)).trans hg8
        have hza := (Below.heap_alloc w8 (.cells #[.int .i64 d1, .int .i64 d2] 121) (w.heap.size + 1 + 1) (by omega)).trans hz8
        have hoa := own_now ho8 (balloc (Below.refl w8.heap.size w8) (.cells #[.int .i64 d1, .int .i64 d2] 121))
        have hBa := balloc hB8 (.cells #[.int .i64 d1, .int .i64 d2] 121)
        have hsa : w5.heap.size ≤ (w8.alloc (.cells #[.int .i64 d1, .int .i64 d2] 121)).heap.size := by simp; omega
        clear hod HNO HSO hz8 hg8 ho8 hB8 hat hd2
        rw [show fp (some (d1, d2)) = .tuple #[.agg #[.int .i64 d1, .int .i64 d2], .bool true] from rfl]
        go_wp2_with (first
          | ((with_reducible refine store_win szPair rfl _ _ rfl (w.heap.size + 3) 4 (.agg #[.int .i64 d1, .int .i64 d2]) (wkA r (.slice pa' (ints (out ++ [k])).length pc') u v false) (wkA r (.slice pa' (ints (out ++ [k])).length pc') d1 d2 false) ?_ ?_ hga (cells_pair _ _) ?_ (wk_put_d hsz _ _ _ _ _ _) (one_pair _ _) w.heap.size (by omega) ?_); exact rfl; exact rfl; rw [wkA_size _ _ _ _ _ hsz]; omega; intro w9 hg9 hb9 hk9 hs9; have q49 := blk_cell hg9 4 _ (wk_at hsz _ _ _ _ 1); have q50 := blk_cell hg9 5 _ (wk_at hsz _ _ _ _ 2))
          | ((with_reducible refine load_win blkRms ?_ _ rfl (w.heap.size + 3) 0 ?_ (wkA r (.slice pa' (ints (out ++ [k])).length pc') d1 d2 false) r hg9 (wk_rooms hsz _ _ _ _) hsz ?_); exact rfl; exact rfl; simp only [Act.put, List.setIfInBounds_toArray, List.set_cons_zero, List.set_cons_succ]))
        have hB9 := hBa.trans hb9
        refine (beyond_go F first caps d cs ps0 m base r d1 d2 (k : Int) w9 HG.out (HRV.out w9 hB9) (by omega)).mono ?_
        rintro e w10 ⟨rfl, hb10⟩
        rw [HD2.out]
        have hz9 := (hk9 (w.heap.size + 1 + 1) (by omega)).trans hza
        have ho9 := own_keep hoa (fun q hq => hk9 q (by have := (hoa.lt q hq).1; omega))
        have hsz9 : w5.heap.size ≤ w9.heap.size := by omega
        have hB10 := bnext hB9 hb10
        have hg10 := (hb10.block (w.heap.size + 3) (by omega)).trans hg9
        have hz10 := (hb10.block (w.heap.size + 1 + 1) (by omega)).trans hz9
        have ho10 := own_now ho9 hb10
        have hs10 := hb10.size
        clear hga hza hoa hBa hsa hg9 hb9 hk9 hs9 q49 q50 hB9 hz9 ho9 hb10
        go_wp2_with fail
        go_roundw
        case rel => exact ⟨out ++ [k], _, d1, d2, _, rfl, by omega, HAT2, hg10, hz10, ho10, by omega, hB10⟩
        case measure =>
          have e := lenAt_eq (blk_cell hg10 3 _ (wk_at hsz _ _ _ _ 0))
          rw [HL2.out] at e
          have e2 := HIL.out
          rw [e, hlen]
          omega
end Go.Proofs.Ytelchpdlfedleaa
