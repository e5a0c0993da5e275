import Derived.Test.YthkohenobbhhmaaZa
import Derived.Test.YthkohenobbhhmaaZd
import Derived.Test.YthkohenobbhhmaaZf
namespace Go.Proofs.Ythkohenobbhhmaa
open Go.RowKit
set_option maxRecDepth 4000
/-- A walk as the program keeps it: the rooms, the slice of those passed, the last door, and whether it is in a full one. -/
def wkA (r : Array Value) (pv : Value) (x y : Int) (f : Bool) : Array Value := r ++ #[pv, .int .i64 x, .int .i64 y, .bool f]
def zeroW : Array Value := wkA zeroR (.slice none 0 0) 0 0 false
theorem wkA_size (r : Array Value) (pv : Value) (x y : Int) (f : Bool) (h : r.size = 48) : (wkA r pv x y f).size = 52 := by simp [wkA, h]
theorem wkA_one (r : Array Value) (a : Option Addr) (m c : Nat) (x y : Int) (f : Bool) (h : r.all (·.oneCell') = true) : (wkA r (.slice a m c) x y f).all (·.oneCell') = true := by
  rw [wkA, Array.all_append, h]
  simp [Value.oneCell']
theorem zeroW_size : zeroW.size = 52 := wkA_size _ _ _ _ _ zeroR_size
theorem blkWalk : Blk 56 52 := ⟨.inl ⟨_, Try.underlying56⟩, by kernel_rfl⟩
theorem run_alloc_wk (w : World) : (Instr.alloc 56 true (.tuple #[])).run Try.prog w = .ok (.pointer (some ⟨w.heap.size, 0, none⟩)) (w.alloc (.cells zeroW 56)) := by kernel_rfl
theorem built_wk (cs : Array Value) (hc : cs.size = 48) (x y : Int) :
    Try.prog.built 56 [(0, .agg cs), (2, .agg #[.int .i64 x, .int .i64 y])] = some (wkA cs (.slice none 0 0) x y false) := by
  have e : cs = Array.ofFn (fun i : Fin 48 => cs.getD i undef) := by
    apply Array.ext
    · simp [hc]
    · intro i h1 h2; simp [Array.getD, h1]
  have H : ∀ c : Fin 48 → Value, Try.prog.built 56 [(0, .agg (Array.ofFn c)), (2, .agg #[.int .i64 x, .int .i64 y])] = some (wkA (Array.ofFn c) (.slice none 0 0) x y false) := by
    intro c
    kernel_rfl
  rw [e]
  exact H _
section
variable {ops : Array Oper} {rest : List Oper} {o : Oper} {a : Act} {w : World} {Q : Exit → Act → World → Prop}
theorem build_wk (hgd : o.guard = none) (x y : Operand) (ho : o.op = .build 56 #[(0, x), (2, y)]) (cs : Array Value) (hc : cs.size = 48) (u v : Int) (hx : a.eval x = .agg cs) (hy : a.eval y = .agg #[.int .i64 u, .int .i64 v])
    (h : wpList Try.prog ops Q rest (a.put o.dst (.agg (wkA cs (.slice none 0 0) u v false))) w) : wpList Try.prog ops Q (o :: rest) a w := by
  refine wpList_plain hgd fun K hK => ?_
  unfold Oper.wp
  have hr := run_build (P := Try.prog) w 56 #[(0, .agg cs), (2, .agg #[.int .i64 u, .int .i64 v])] _ (built_wk cs hc u v)
  simp [execOp, ho, hx, hy, hr, Result.andThen]
  exact hK _ _ h
end
/-- The cells of a walk's block. -/
theorem wk_rooms {r : Array Value} (h : r.size = 48) (pv : Value) (x y : Int) (f : Bool) : ∀ j, j < 48 → (wkA r pv x y f)[0 + j]? = r[j]? := fun j hj => by
  rw [wkA, Nat.zero_add, Array.getElem?_append_left (by omega)]
theorem wk_at {r : Array Value} (h : r.size = 48) (pv : Value) (x y : Int) (f : Bool) (j : Nat) : (wkA r pv x y f)[48 + j]? = (#[pv, .int .i64 x, .int .i64 y, .bool f] : Array Value)[j]? := by
  rw [wkA, Array.getElem?_append_right (by omega), h, Nat.add_sub_cancel_left]
theorem wk_list {r : Array Value} (pv : Value) (x y : Int) (f : Bool) : (wkA r pv x y f).toList = r.toList ++ [pv, .int .i64 x, .int .i64 y, .bool f] := by simp [wkA]
theorem wk_take {r : Array Value} (h : r.size = 48) (pv : Value) (x y : Int) (f : Bool) (j : Nat) : (wkA r pv x y f).toList.take (48 + j) = r.toList ++ [pv, .int .i64 x, .int .i64 y, .bool f].take j := by
  have hl : r.toList.length = 48 := by simpa using h
  rw [wk_list, List.take_append, List.take_of_length_le (by omega), hl, Nat.add_sub_cancel_left]
theorem wk_drop {r : Array Value} (h : r.size = 48) (pv : Value) (x y : Int) (f : Bool) (j : Nat) : (wkA r pv x y f).toList.drop (48 + j) = [pv, .int .i64 x, .int .i64 y, .bool f].drop j := by
  have hl : r.toList.length = 48 := by simpa using h
  rw [wk_list, List.drop_append, List.drop_of_length_le (by omega), hl, Nat.add_sub_cancel_left, List.nil_append]
theorem wk_put_p {r : Array Value} (h : r.size = 48) (pv : Value) (x y : Int) (f : Bool) (a : Option Addr) (m c : Nat) : wkA r (.slice a m c) x y f = ((wkA r pv x y f).toList.take 48 ++ (Value.slice a m c).cells.toList ++ (wkA r pv x y f).toList.drop (48 + 1)).toArray := by
  rw [show (48 : Nat) = 48 + 0 by rfl, wk_take h, wk_drop h]
  simp [wkA, Value.cells]
theorem wk_put_d {r : Array Value} (h : r.size = 48) (pv : Value) (x y u v : Int) (f : Bool) : wkA r pv u v f = ((wkA r pv x y f).toList.take 49 ++ (Value.agg #[.int .i64 u, .int .i64 v]).cells.toList ++ (wkA r pv x y f).toList.drop (49 + 2)).toArray := by
  rw [show (49 : Nat) = 48 + 1 by rfl, wk_take h, show (48 + 1 + 2 : Nat) = 48 + 3 by rfl, wk_drop h]
  simp [wkA, Value.cells]
theorem wk_put_f {r : Array Value} (h : r.size = 48) (pv : Value) (x y : Int) (f g : Bool) : wkA r pv x y g = ((wkA r pv x y f).toList.take 51 ++ (Value.bool g).cells.toList ++ (wkA r pv x y f).toList.drop (51 + 1)).toArray := by
  rw [show (51 : Nat) = 48 + 3 by rfl, wk_take h, show (48 + 3 + 1 : Nat) = 48 + 4 by rfl, wk_drop h]
  simp [wkA, Value.cells]
theorem szPair : (Try.prog.info? 54).map (·.size) = some 2 := by kernel_rfl
theorem szInts : (Try.prog.info? 22).map (·.size) = some 1 := by kernel_rfl
theorem szBool : (Try.prog.info? 4).map (·.size) = some 1 := by kernel_rfl
/-- A walk that is done. -/
def WalkV (w : World) (base n : Nat) (xs : List Int) (L : List Nat) (R : (Int × Int) × Bool) (v : Value) : Prop :=
  ∃ r pv x y, v = .agg (wkA r pv x y R.2) ∧ RoomsV w base n xs r ∧ w.ownsRow base 3 1 pv L.length ((L.map (fun (k : Nat) => (k : Int))).map (Value.int .i64)) ∧ inner (x, y) = R.1
end Go.Proofs.Ythkohenobbhhmaa

namespace Go.Proofs.Ythkohenobbhhmaa
open Go.RowKit
set_option maxRecDepth 4000
theorem beyond_go (n : Nat) (xs : List Int) (base : Nat) (r : Array Value) (x y fr : Int) (w : World) (hL : labB n xs = true) (hrv : RoomsV w base n xs r) (h : x ≠ y) :
    Calls Try.prog 82 #[.agg r, .agg #[.int .i64 x, .int .i64 y], .int .i64 fr] w fun e w' => e = .returned (.int .i64 (beyI (acrossI n fr (inner (x, y))))) ∧ Below w.heap.size w w' := by
  have e := beyond_any n xs base r x y fr w hL hrv
  rwa [bey_eq (labB_yes hL).2.1 fr x y h] at e
theorem otherDoor_go (n : Nat) (xs : List Int) (base : Nat) (r : Array Value) (k x y : Int) (k0 : Nat) (w : World) (hL : labB n xs = true) (hrv : RoomsV w base n xs r) (hk : k = k0) (hk0 : k0 < (ci n).length) :
    Calls Try.prog 83 #[.agg r, .int .i64 k, .agg #[.int .i64 x, .int .i64 y]] w fun e w' => e = .returned (fp (otherD xs n k0 (inner (x, y)))) ∧ Below w.heap.size w w' := by
  subst hk
  have e := otherDoor_any n xs base r k0 x y w hL hrv hk0
  rwa [oth_eq xs (labB_yes hL).2.1 hk0] at e
/-- How many rooms a walk has passed. -/
def lenAt (w : World) (g : Nat) : Nat := match w.cell? ⟨g, 48, none⟩ with | some (.slice _ m _) => m | _ => 0
theorem lenAt_eq {w : World} {g : Nat} {a : Option Addr} {m c : Nat} (h : w.cell? ⟨g, 48, none⟩ = some (.slice a m c)) : lenAt w g = m := by simp [lenAt, h]
def ints (L : List Nat) : List Int := L.map (fun (k : Nat) => (k : Int))
theorem ints_len (L : List Nat) : (ints L).length = L.length := by simp [ints]
theorem ints_app (L : List Nat) (k : Nat) : ints (L ++ [k]) = ints L ++ [(k : Int)] := by simp [ints]
theorem cells_slice (a : Option Addr) (m c : Nat) : (Value.slice a m c).cells.size = 1 := rfl
theorem cells_pair (u v : Int) : (Value.agg #[.int .i64 u, .int .i64 v]).cells.size = 2 := rfl
theorem cells_bool (b : Bool) : (Value.bool b).cells.size = 1 := rfl
theorem one_slice (a : Option Addr) (m c : Nat) : ∀ u ∈ (Value.slice a m c).cells.toList, u.oneCell' = true := by simp [Value.cells, Value.oneCell']
theorem one_pair (u v : Int) : ∀ x ∈ (Value.agg #[.int .i64 u, .int .i64 v]).cells.toList, x.oneCell' = true := by simp [Value.cells, Value.oneCell']
theorem one_bool (b : Bool) : ∀ u ∈ (Value.bool b).cells.toList, u.oneCell' = true := by simp [Value.cells, Value.oneCell']
/-- What a walk answers. -/
def Walked (w : World) (r : Array Value) (R : List Nat × (Int × Int) × Bool) (e : Ending) (w' : World) : Prop :=
  ∃ pv u v, e = .returned (.agg (wkA r pv u v R.2.2)) ∧ w'.ownsRow w.heap.size 3 1 pv R.1.length ((ints R.1).map (Value.int .i64)) ∧ inner (u, v) = R.2.1 ∧ Below w.heap.size w w'
theorem walked_of {w w9 : World} {r : Array Value} {L out : List Nat} {R : (Int × Int) × Bool} {pv : Value} {u v : Int} {f : Bool} {base : Nat} (hR : out = L ∧ R = (inner (u, v), f)) (ho : w9.ownsRow base 3 1 pv (ints out).length ((ints out).map (Value.int .i64))) (hb : w.heap.size ≤ base) (hB : Below w.heap.size w w9) :
    Walked w r (L, R) (.returned (.agg (wkA r pv u v f))) w9 := by
  obtain ⟨rfl, rfl⟩ := hR
  exact ⟨pv, u, v, rfl, by rw [ints_len] at ho; exact World.ownsRow.mono ho hb, rfl, hB⟩
set_option maxHeartbeats 3200000 in
theorem walkFrom_any (n : Nat) (xs : List Int) (base : Nat) (r : Array Value) (fr x y : Int) (w : World) (hL : labB n xs = true) (hrv : RoomsV w base n xs r) (hgo : Goes xs n fr (x, y)) :
    Calls Try.prog 43 #[.agg r, .int .i64 fr, .agg #[.int .i64 x, .int .i64 y]] w (Walked w r (wfrom xs n fr (x, y))) := by
  obtain ⟨hsz, hone, -⟩ := rooms_row hL hrv
  obtain ⟨s0, L, R, hLR, hat0⟩ := goes_at hgo
  rw [hLR]
  clear hLR
  have hxy : x ≠ y := hgo.1
  have HL := Lib.hid hL
  have HRV := Lib.hid (fun w' (hb : Below w.heap.size w w') => rooms_now hrv hb)
  have HAT := Lib.hid hat0
  obtain ⟨h1, h2, -⟩ := labB_yes hL
  have hbd := ci_bd n h2
  clear hL hrv hat0 hgo
  have W1 : Below w.heap.size w ((((w.alloc (.cells r 52)).alloc (.cells #[.int .i64 x, .int .i64 y] 54)).alloc (.cells zeroW 56))) := balloc (balloc (balloc (Below.refl w.heap.size w) _) _) _
  have hg1 : ((((w.alloc (.cells r 52)).alloc (.cells #[.int .i64 x, .int .i64 y] 54)).alloc (.cells zeroW 56))).heap[w.heap.size]? = some (.cells r 52 (0, 0)) := by
    rw [Below.heap_alloc _ _ _ (by simp; omega), Below.heap_alloc _ _ _ (by simp)]
    exact heap_alloc_new w _
  have hp1 : ((((w.alloc (.cells r 52)).alloc (.cells #[.int .i64 x, .int .i64 y] 54)).alloc (.cells zeroW 56))).heap[w.heap.size + 1]? = some (.cells #[.int .i64 x, .int .i64 y] 54 (0, 0)) := by
    rw [Below.heap_alloc _ _ _ (by simp)]
    have e := heap_alloc_new (w.alloc (.cells r 52)) (.cells #[.int .i64 x, .int .i64 y] 54)
    rwa [World.size_alloc] at e
  have hz1 : ((((w.alloc (.cells r 52)).alloc (.cells #[.int .i64 x, .int .i64 y] 54)).alloc (.cells zeroW 56))).heap[w.heap.size + 1 + 1]? = some (.cells zeroW 56 (0, 0)) := by
    have e := heap_alloc_new ((w.alloc (.cells r 52)).alloc (.cells #[.int .i64 x, .int .i64 y] 54)) (.cells zeroW 56)
    rwa [World.size_alloc, World.size_alloc] at e
  have hs1 : ((((w.alloc (.cells r 52)).alloc (.cells #[.int .i64 x, .int .i64 y] 54)).alloc (.cells zeroW 56))).heap.size = w.heap.size + 3 := by simp
  have p0 := blk_cell hp1 0 (.int .i64 x) rfl
  have p1 := blk_cell hp1 1 (.int .i64 y) rfl
  have hn2 : (((((w.alloc (.cells r 52)).alloc (.cells #[.int .i64 x, .int .i64 y] 54)).alloc (.cells zeroW 56))).alloc (.cells zeroW 56)).heap[w.heap.size + 3]? = some (.cells zeroW 56 (0, 0)) := by
    have e := heap_alloc_new (((w.alloc (.cells r 52)).alloc (.cells #[.int .i64 x, .int .i64 y] 54)).alloc (.cells zeroW 56)) (.cells zeroW 56)
    rwa [hs1] at e
  have W2 := balloc W1 (.cells zeroW 56)
  have hz2 := (Below.heap_alloc ((((w.alloc (.cells r 52)).alloc (.cells #[.int .i64 x, .int .i64 y] 54)).alloc (.cells zeroW 56))) (.cells zeroW 56) (w.heap.size + 1 + 1) (by omega)).trans hz1
  have hp2 := (Below.heap_alloc ((((w.alloc (.cells r 52)).alloc (.cells #[.int .i64 x, .int .i64 y] 54)).alloc (.cells zeroW 56))) (.cells zeroW 56) (w.heap.size + 1) (by omega)).trans hp1
  have hs2 : (((((w.alloc (.cells r 52)).alloc (.cells #[.int .i64 x, .int .i64 y] 54)).alloc (.cells zeroW 56))).alloc (.cells zeroW 56)).heap.size = w.heap.size + 4 := by simp
  have hwk : (wkA r (.slice none 0 0) x y false).size = 52 := wkA_size _ _ _ _ _ hsz
  have hwo : (wkA r (.slice none 0 0) x y false).all (·.oneCell') = true := wkA_one _ _ _ _ _ _ _ hone
  clear hp1 hz1
  go_enter Try.func43, Try.ntmps43
  go_wp2_with (first
    | ((with_reducible refine alloc_blk zeroW run_alloc_wk rfl rfl ?_); (try rw [hs1]); simp only [World.size_alloc, Act.put, List.setIfInBounds_toArray, List.set_cons_zero, List.set_cons_succ])
    | ((with_reducible refine build_wk rfl _ _ rfl r hsz x y ?_ ?_ ?_); exact rfl; exact rfl; simp only [Act.put, List.setIfInBounds_toArray, List.set_cons_zero, List.set_cons_succ])
    | ((with_reducible refine load_blk blkRooms ?_ _ rfl w.heap.size ?_ r hg1 hsz ?_); exact rfl; exact rfl; simp only [Act.put, List.setIfInBounds_toArray, List.set_cons_zero, List.set_cons_succ])
    | ((with_reducible refine store_blk blkWalk rfl _ _ rfl (w.heap.size + 3) (wkA r (.slice none 0 0) x y false) zeroW ?_ ?_ hn2 zeroW_size hwk hwo w.heap.size (by omega) ?_); exact rfl; exact rfl; intro w4 hg4 hb4 hk4 hs4; have q0 := blk_cell ((hk4 (w.heap.size + 1) (by omega)).trans hp2) 0 (.int .i64 x) rfl; have q1 := blk_cell ((hk4 (w.heap.size + 1) (by omega)).trans hp2) 1 (.int .i64 y) rfl)
    | ((with_reducible refine load_win blkRooms ?_ _ rfl (w.heap.size + 3) 0 ?_ (wkA r (.slice none 0 0) x y false) r hg4 (wk_rooms hsz _ _ _ _) hsz ?_); exact rfl; exact rfl; simp only [Act.put, List.setIfInBounds_toArray, List.set_cons_zero, List.set_cons_succ]))
  refine (beyond_go n xs base r x y fr w4 HL.out (HRV.out w4 (W2.trans hb4)) hxy).mono ?_
  rintro e w5 ⟨rfl, hb5⟩
  have hz5 := (hb5.block (w.heap.size + 1 + 1) (by omega)).trans ((hk4 _ (by omega)).trans hz2)
  have hg5 := (hb5.block (w.heap.size + 3) (by omega)).trans hg4
  have hB5 : Below w.heap.size w w5 := (W2.trans hb4).trans (hb5.mono (by omega))
  have hs5 : w.heap.size + 4 ≤ w5.heap.size := by have := hb5.size; omega
  have hwz : ∀ pa m pc u v b, Hid ((wkA r (.slice pa m pc) u v b).size = 52 ∧ (wkA r (.slice pa m pc) u v b).all (·.oneCell') = true) := fun pa m pc u v b => Lib.hid ⟨wkA_size _ _ _ _ _ hsz, wkA_one _ _ _ _ _ _ _ hone⟩
  clear hg1 hp2 hn2 hz2 hs1 hs2 p0 p1 q0 q1 hb4 hb5 hk4 hg4 W1 W2 hwk hwo hs4
  go_wp2_with fail
  go_loopw [8] (fun v8 wr => ∃ (out : List Nat) (pv : Value) (u v room : Int), v8 = .int .i64 room ∧ u ≠ v ∧ Hid (At xs n s0 L R out room (u, v)) ∧ wr.heap[w.heap.size + 3]? = some (.cells (wkA r pv u v false) 56 (0, 0)) ∧
    wr.heap[w.heap.size + 1 + 1]? = some (.cells zeroW 56 (0, 0)) ∧ wr.ownsRow w5.heap.size 3 1 pv (ints out).length ((ints out).map (Value.int .i64)) ∧ w5.heap.size ≤ wr.heap.size ∧ Below w.heap.size w wr) (fun _ wr => (ci n).length + 1 - lenAt wr (w.heap.size + 3))
  case atStart => exact ⟨[], .slice none 0 0, x, y, _, rfl, hxy, HAT, hg5, hz5, World.ownsRow_nil _ _ _ _, Nat.le_refl _, hB5⟩
  case round =>
    obtain ⟨out, pv, u, v, room, rfl, huv, hat, hg, hz, ho, hs, hB⟩ := hrel
    obtain ⟨-, pa, pc, pb, rfl, hpx, -⟩ := own_shape ho
    obtain ⟨wi, hwi⟩ : ∃ wi : World, wi = wr := ⟨_, rfl⟩
    subst hwi
    cases hrm : (room != -1)
    · have e : room = -1 := by simpa using hrm
      have hend : out = L ∧ R = (inner (u, v), false) := by
        rcases hat.out with ⟨k, hk, -⟩ | ⟨-, h⟩
        · omega
        · exact h
      have HE := Lib.hid hend
      have q1 := (hwz pa (ints out).length pc u v false).out
      clear e hend hat
      go_wp2_with (first
        | ((with_reducible refine load_blk blkWalk ?_ _ rfl (w.heap.size + 3) ?_ _ hg q1.1 ?_); exact rfl; exact rfl; simp only [Act.put, List.setIfInBounds_toArray, List.set_cons_zero, List.set_cons_succ])
        | ((with_reducible refine store_blk blkWalk rfl _ _ rfl (w.heap.size + 1 + 1) (wkA r (.slice pa (ints out).length pc) u v false) zeroW ?_ ?_ hz zeroW_size q1.1 q1.2 w.heap.size (by omega) ?_); exact rfl; exact rfl; intro w9 hg9 hb9 hk9 hs9))
      exact bodyPost_ret (results_blk1 blkWalk rfl _ _ (w.heap.size + 1 + 1) _ rfl hg9 q1.1) rfl (walked_of HE.out (own_keep ho (fun k hk => hk9 k (by have := (ho.lt k hk).1; omega))) (by omega) (hB.trans hb9))
    · obtain ⟨k, rfl, hk, hol, hin, hfu, hno, hso⟩ := at_room HL.out hat.out (by simpa using hrm)
      have HNO := Lib.hid hno
      have HSO := Lib.hid hso
      have q48 : wi.cell? ⟨w.heap.size + 3, 48, none⟩ = some (.slice pa (ints out).length pc) := blk_cell hg 48 _ (wk_at hsz _ _ _ _ 0)
      have hlen := lenAt_eq q48
      have HIL := Lib.hid (ints_len out)
      have hil2 : (ints out).length < 2000 := by rw [HIL.out]; omega
      have hsA : w.heap.size + 3 < wi.heap.size := by omega
      clear hat hin hfu hno hso
      go_wp2_with (first
        | (at_builtin; go_loud (refine append_int w5.heap.size wi _ (ints out) _ rfl _ _ rfl rfl rfl ho hs (by omega) ?_; intro v' w6 ho6 hb6; rw [← ints_app] at ho6; obtain ⟨-, pa', pc', pb', rfl, hpx', -⟩ := own_shape ho6; have hg6 := (hb6.block (w.heap.size + 3) (by omega)).trans hg; have hs6 := hb6.size))
        | ((with_reducible refine store_win szInts rfl _ _ rfl (w.heap.size + 3) 48 (.slice pa' (ints (out ++ [k])).length pc') (wkA r (.slice pa (ints out).length pc) u v false) (wkA r (.slice pa' (ints (out ++ [k])).length pc') u v false) ?_ ?_ hg6 (cells_slice _ _ _) ?_ (wk_put_p hsz _ _ _ _ _ _ _) (one_slice _ _ _) w.heap.size (by omega) ?_); exact rfl; exact rfl; rw [wkA_size _ _ _ _ _ hsz]; omega; intro w7 hg7 hb7 hk7 hs7; have q49 := blk_cell hg7 49 _ (wk_at hsz _ _ _ _ 1); have q50 := blk_cell hg7 50 _ (wk_at hsz _ _ _ _ 2))
        | ((with_reducible refine load_win blkRooms ?_ _ rfl (w.heap.size + 3) 0 ?_ (wkA r (.slice pa' (ints (out ++ [k])).length pc') u v false) r hg7 (wk_rooms hsz _ _ _ _) hsz ?_); exact rfl; exact rfl; simp only [Act.put, List.setIfInBounds_toArray, List.set_cons_zero, List.set_cons_succ]))
      have hB7 : Below w.heap.size w w7 := (hB.trans (hb6.mono (by omega))).trans hb7
      refine (otherDoor_go n xs base r (k : Int) u v k w7 HL.out (HRV.out w7 hB7) rfl hk).mono ?_
      rintro e w8 ⟨rfl, hb8⟩
      have hg8 := (hb8.block (w.heap.size + 3) (by omega)).trans hg7
      have hz7 := (hk7 (w.heap.size + 1 + 1) (by omega)).trans ((hb6.block (w.heap.size + 1 + 1) (by omega)).trans hz)
      have hz8 := (hb8.block (w.heap.size + 1 + 1) (by omega)).trans hz7
      have ho7 := own_keep ho6 (fun q hq => hk7 q (by have := (ho6.lt q hq).1; omega))
      have ho8 := own_now ho7 hb8
      have hB8 := bnext hB7 hb8
      have hs8 : w5.heap.size ≤ w8.heap.size := by have := hb8.size; omega
      have hs8' : w.heap.size + 4 ≤ w8.heap.size := by omega
      have HL2 : Hid ((ints (out ++ [k])).length = out.length + 1) := Lib.hid (by rw [ints_len, List.length_append]; rfl)
      have hq1 := fun a b f => (hwz pa' (ints (out ++ [k])).length pc' a b f).out
      clear hg hz ho hb6 ho6 hg6 hb7 hg7 hk7 hs7 q48 q49 q50 hb8 hz7 ho7 hB hB7
      cases hod : otherD xs n k (inner (u, v)) with
      | none =>
        have HE := Lib.hid (HNO.out hod)
        have hga : (w8.alloc (.cells #[.int .i64 0, .int .i64 0] 54)).heap[w.heap.size + 3]? = some (.cells (wkA r (.slice pa' (ints (out ++ [k])).length pc') u v false) 56 (0, 0)) := (Below.heap_alloc _ _ _ (by omega)).trans hg8
        have hza := (Below.heap_alloc w8 (.cells #[.int .i64 0, .int .i64 0] 54) (w.heap.size + 1 + 1) (by omega)).trans hz8
        have hoa := own_now ho8 (balloc (Below.refl w8.heap.size w8) (.cells #[.int .i64 0, .int .i64 0] 54))
        have hBa := balloc hB8 (.cells #[.int .i64 0, .int .i64 0] 54)
        clear hod HNO HSO hz8 hg8 ho8 hB8
        rw [show fp none = .tuple #[.agg #[.int .i64 0, .int .i64 0], .bool false] from rfl]
        have hfin := fun (wx wy : World) (hk1 : ∀ q, q ≠ w.heap.size + 3 → wx.heap[q]? = (w8.alloc (.cells #[.int .i64 0, .int .i64 0] 54)).heap[q]?) (hk2 : ∀ q, q ≠ w.heap.size + 1 + 1 → wy.heap[q]? = wx.heap[q]?) => own_keep hoa (w' := wy) (fun q hq => (hk2 q (by have := (hoa.lt q hq).1; omega)).trans (hk1 q (by have := (hoa.lt q hq).1; omega)))
        have HFIN := Lib.hid hfin
        clear hfin hoa
        go_wp2_with (first
          | ((with_reducible refine store_win szBool rfl _ _ rfl (w.heap.size + 3) 51 (.bool true) (wkA r (.slice pa' (ints (out ++ [k])).length pc') u v false) (wkA r (.slice pa' (ints (out ++ [k])).length pc') u v true) ?_ ?_ hga (cells_bool _) ?_ (wk_put_f hsz _ _ _ _ _) (one_bool _) w.heap.size (by omega) ?_); exact rfl; exact rfl; rw [wkA_size _ _ _ _ _ hsz]; omega; intro w9 hg9 hb9 hk9 hs9; have hz9 := (hk9 (w.heap.size + 1 + 1) (by omega)).trans hza)
          | ((with_reducible refine load_blk blkWalk ?_ _ rfl (w.heap.size + 3) ?_ _ hg9 (hq1 _ _ _).1 ?_); exact rfl; exact rfl; simp only [Act.put, List.setIfInBounds_toArray, List.set_cons_zero, List.set_cons_succ])
          | ((with_reducible refine store_blk blkWalk rfl _ _ rfl (w.heap.size + 1 + 1) (wkA r (.slice pa' (ints (out ++ [k])).length pc') u v true) zeroW ?_ ?_ hz9 zeroW_size (hq1 _ _ _).1 (hq1 _ _ _).2 w.heap.size (by omega) ?_); exact rfl; exact rfl; intro w10 hg10 hb10 hk10 hs10))
        exact bodyPost_ret (results_blk1 blkWalk rfl _ _ (w.heap.size + 1 + 1) _ rfl hg10 (hq1 _ _ _).1) rfl (walked_of HE.out (HFIN.out w9 w10 hk9 hk10) (by omega) ((hBa.trans hb9).trans hb10))
      | some d =>
        obtain ⟨hd1, hd2, hat⟩ := HSO.out d hod
        obtain ⟨d1, d2⟩ := d
        have HAT2 := Lib.hid hat
        have HD2 := Lib.hid hd2
        simp only at hd1
        have hga : (w8.alloc (.cells #[.int .i64 d1, .int .i64 d2] 54)).heap[w.heap.size + 3]? = some (.cells (wkA r (.slice pa' (ints (out ++ [k])).length pc') u v false) 56 (0, 0)) := (Below.heap_alloc _ _ _ (by omega)).trans hg8
        have hza := (Below.heap_alloc w8 (.cells #[.int .i64 d1, .int .i64 d2] 54) (w.heap.size + 1 + 1) (by omega)).trans hz8
        have hoa := own_now ho8 (balloc (Below.refl w8.heap.size w8) (.cells #[.int .i64 d1, .int .i64 d2] 54))
        have hBa := balloc hB8 (.cells #[.int .i64 d1, .int .i64 d2] 54)
        have hsa : w5.heap.size ≤ (w8.alloc (.cells #[.int .i64 d1, .int .i64 d2] 54)).heap.size := by simp; omega
        clear hod HNO HSO hz8 hg8 ho8 hB8 hat hd2
        rw [show fp (some (d1, d2)) = .tuple #[.agg #[.int .i64 d1, .int .i64 d2], .bool true] from rfl]
        go_wp2_with (first
          | ((with_reducible refine store_win szPair rfl _ _ rfl (w.heap.size + 3) 49 (.agg #[.int .i64 d1, .int .i64 d2]) (wkA r (.slice pa' (ints (out ++ [k])).length pc') u v false) (wkA r (.slice pa' (ints (out ++ [k])).length pc') d1 d2 false) ?_ ?_ hga (cells_pair _ _) ?_ (wk_put_d hsz _ _ _ _ _ _) (one_pair _ _) w.heap.size (by omega) ?_); exact rfl; exact rfl; rw [wkA_size _ _ _ _ _ hsz]; omega; intro w9 hg9 hb9 hk9 hs9; have q49 := blk_cell hg9 49 _ (wk_at hsz _ _ _ _ 1); have q50 := blk_cell hg9 50 _ (wk_at hsz _ _ _ _ 2))
          | ((with_reducible refine load_win blkRooms ?_ _ rfl (w.heap.size + 3) 0 ?_ (wkA r (.slice pa' (ints (out ++ [k])).length pc') d1 d2 false) r hg9 (wk_rooms hsz _ _ _ _) hsz ?_); exact rfl; exact rfl; simp only [Act.put, List.setIfInBounds_toArray, List.set_cons_zero, List.set_cons_succ]))
        have hB9 := hBa.trans hb9
        refine (beyond_go n xs base r d1 d2 (k : Int) w9 HL.out (HRV.out w9 hB9) (by omega)).mono ?_
        rintro e w10 ⟨rfl, hb10⟩
        rw [HD2.out]
        have hz9 := (hk9 (w.heap.size + 1 + 1) (by omega)).trans hza
        have ho9 := own_keep hoa (fun q hq => hk9 q (by have := (hoa.lt q hq).1; omega))
        have hsz9 : w5.heap.size ≤ w9.heap.size := by omega
        have hB10 := bnext hB9 hb10
        have hg10 := (hb10.block (w.heap.size + 3) (by omega)).trans hg9
        have hz10 := (hb10.block (w.heap.size + 1 + 1) (by omega)).trans hz9
        have ho10 := own_now ho9 hb10
        have hs10 := hb10.size
        clear hga hza hoa hBa hsa hg9 hb9 hk9 hs9 q49 q50 hB9 hz9 ho9 hb10
        go_wp2_with fail
        go_roundw
        case rel => exact ⟨out ++ [k], _, d1, d2, _, rfl, by omega, HAT2, hg10, hz10, ho10, by omega, hB10⟩
        case measure =>
          have e := lenAt_eq (blk_cell hg10 48 _ (wk_at hsz _ _ _ _ 0))
          rw [HL2.out] at e
          have e2 := HIL.out
          rw [e, hlen]
          omega
end Go.Proofs.Ythkohenobbhhmaa

namespace Go.Proofs.Ythkohenobbhhmaa
open Go.RowKit
set_option maxRecDepth 4000
def Kf (kf : Nat) (k : Nat → Nat) : Nat → Nat
  | 0 => kf
  | i + 1 => k i
def Df (d : Nat → Int × Int) : Nat → Option (Int × Int)
  | 0 => none
  | i + 1 => some (d i)
def Mm (xs : List Int) (n kf : Nat) : Option (Int × Int) → Nat → Prop
  | none, q => q = kf
  | some e, q => q < (ci n).length ∧ e ∈ dcell xs n q
/-- A walk out of a full room by its door comes to its end. -/
theorem walk_ends_full (n : Nat) (xs : List Int) (hL : labB n xs = true) (kf : Nat) (d0 : Int × Int) (hkf : kf < (ci n).length) (hdf : dcell xs n kf = [d0]) (k0 : Nat) (ha0 : acrossD n kf d0 = some k0) :
    stW xs n (k0, d0) (ci n).length = none := by
  obtain ⟨h1, h2, hl, hA⟩ := labB_yes hL
  have hk0 := acrossD_some ha0
  have hk : k0 < (ci n).length := hk0.1
  have hd0 : drB xs d0 = true := (mem_dcell.1 (by rw [hdf]; simp : d0 ∈ dcell xs n kf)).2
  have hd : d0 ∈ dcell xs n k0 := mem_dcell.2 ⟨hk0.2.1, hd0⟩
  cases hs : stW xs n (k0, d0) (ci n).length with
  | none => rfl
  | some s =>
    exfalso
    have hall : ∀ i, i ≤ (ci n).length → ∃ t, stW xs n (k0, d0) i = some t := by
      intro i hi
      cases ht : stW xs n (k0, d0) i with
      | some t => exact ⟨t, rfl⟩
      | none =>
        exfalso
        have : ∀ m, stW xs n (k0, d0) (i + m) = none := by
          intro m
          induction m with
          | zero => exact ht
          | succ m ih => rw [← Nat.add_assoc]; simp only [stW, ih]; rfl
        have e := this ((ci n).length - i)
        rw [show i + ((ci n).length - i) = (ci n).length by omega, hs] at e
        cases e
    let k : Nat → Nat := fun i => ((stW xs n (k0, d0) i).getD (k0, d0)).1
    let d : Nat → Int × Int := fun i => ((stW xs n (k0, d0) i).getD (k0, d0)).2
    have hstep : ∀ i, i < (ci n).length → otherD xs n (k i) (d i) = some (d (i + 1)) ∧ acrossD n (k i) (d (i + 1)) = some (k (i + 1)) := by
      intro i hi
      obtain ⟨t, ht⟩ := hall i (by omega)
      obtain ⟨t', ht'⟩ := hall (i + 1) (by omega)
      have e := ht'
      simp only [stW, ht, Option.bind_some, stepW] at e
      have ek : k i = t.1 := by simp only [k, ht, Option.getD_some]
      have ed : d i = t.2 := by simp only [d, ht, Option.getD_some]
      have ek' : k (i + 1) = t'.1 := by simp only [k, ht', Option.getD_some]
      have ed' : d (i + 1) = t'.2 := by simp only [d, ht', Option.getD_some]
      rw [ek, ed, ek', ed']
      cases ho : otherD xs n t.1 t.2 with
      | none => rw [ho] at e; dsimp only at e; cases e
      | some dd =>
        rw [ho] at e
        dsimp only at e
        cases ha : acrossD n t.1 dd with
        | none => rw [ha] at e; cases e
        | some q =>
          rw [ha] at e
          simp only [Option.map_some, Option.some.injEq] at e
          subst e
          exact ⟨rfl, ha⟩
    have hinv : ∀ i, i ≤ (ci n).length → k i < (ci n).length ∧ d i ∈ dcell xs n (k i) := by
      intro i
      induction i with
      | zero => intro _; exact ⟨hk, hd⟩
      | succ i ih =>
        intro hi
        obtain ⟨h3, h4⟩ := hstep i (by omega)
        have a := acrossD_some h4
        have b := mem_dcell.1 (otherD_some h3).1
        exact ⟨a.1, mem_dcell.2 ⟨a.2.1, b.2⟩⟩
    have hfull : ∀ i, i < (ci n).length → k i ≠ kf := fun i hi e => by
      have a := (hinv i (by omega)).2
      have b := otherD_some (hstep i hi).1
      rw [e, hdf] at a b
      simp only [List.mem_singleton] at a b
      exact b.2 (b.1.trans a.symm)
    have hd00 : d 0 = d0 := rfl
    have hk00 : k 0 = k0 := rfl
    clear_value k d
    have hinj := walk_inj (Kf kf k) (Df d) (ci n).length (Mm xs n kf)
      (fun i hi => by
        match i, hi with
        | 0, _ => exact rfl
        | i + 1, hi => exact hinv i (by omega))
      (fun i hi => by
        match i, hi with
        | 0, _ => exact ⟨hkf, by rw [hd00]; show d0 ∈ dcell xs n kf; rw [hdf]; exact List.mem_singleton.2 rfl⟩
        | i + 1, hi => exact ⟨(hinv i (by omega)).1, (otherD_some (hstep i (by omega)).1).1⟩)
      (fun i hi => by
        match i, hi with
        | 0, _ => exact fun e => by cases e
        | i + 1, hi => exact fun e => (otherD_some (hstep i (by omega)).1).2 (Option.some.inj e))
      (fun i hi => by
        match i, hi with
        | 0, _ => exact (by rw [hk00]; exact hk0.2.2 : k 0 ≠ kf)
        | i + 1, hi => exact (acrossD_some (hstep i (by omega)).2).2.2)
      (fun i hi e he => by
        cases i with
        | zero =>
          cases e with
          | none => exact .inl rfl
          | some e =>
            have h : e ∈ dcell xs n kf := he.2
            rw [hdf, List.mem_singleton] at h
            exact .inr (by rw [h, ← hd00]; rfl)
        | succ i =>
         cases e with
         | none => exact absurd he (hfull i (by omega))
         | some e =>
          have hki := (hinv i (by omega)).1
          have a := (hinv i (by omega)).2
          have b := otherD_some (hstep i (by omega)).1
          have he : k i < (ci n).length ∧ e ∈ dcell xs n (k i) := he
          suffices h : e = d i ∨ e = d (i + 1) by
            rcases h with h | h
            · exact .inl (by rw [h]; rfl)
            · exact .inr (by rw [h]; rfl)
          rcases dcell_cases n (k i) xs hL hki with ⟨-, p, hp⟩ | ⟨-, hp | ⟨p, q, hp, -⟩⟩
          · rw [hp] at a b
            simp only [List.mem_singleton] at a b
            exact absurd (b.1.trans a.symm) b.2
          · rw [hp] at a; simp at a
          · have he2 := he.2
            have a2 := a
            have b2 := b.1
            rw [hp] at he2 a2 b2
            simp only [List.mem_cons, List.not_mem_nil, or_false] at he2 a2 b2
            have hne := b.2
            rcases he2 with r | r <;> rcases a2 with s1 | s1 <;> rcases b2 with s2 | s2
            · exact absurd (s2.trans s1.symm) hne
            · exact .inl (r.trans s1.symm)
            · exact .inr (r.trans s2.symm)
            · exact absurd (s2.trans s1.symm) hne
            · exact absurd (s2.trans s1.symm) hne
            · exact .inr (r.trans s2.symm)
            · exact .inl (r.trans s1.symm)
            · exact absurd (s2.trans s1.symm) hne)
      (fun e a b c ha hb hc hab hac => by
        cases e with
        | none => exact Eq.trans (b := kf) hb (Eq.symm hc)
        | some e =>
          by_cases hbc : b = c
          · exact hbc
          · exfalso
            have hm : ∀ q, q < (ci n).length ∧ e ∈ dcell xs n q → q ∈ bothN n e := fun q hq => by
              simp only [bothN, List.mem_filter, List.mem_range, decide_eq_true_eq]
              exact ⟨hq.1, (mem_dcell.1 hq.2).1⟩
            have h3 := three_len (hm a ha) (hm b hb) (hm c hc) hab hac hbc
            have h4 := bothN_two n (by omega) a ha.1 e (mem_dcell.1 ha.2).1
            omega)
      (fun a ha => ha)
    have := inj_le (ci n).length (Kf kf k) (ci n).length (fun i hi => by
      match i, hi with
      | 0, _ => exact hkf
      | i + 1, hi => exact (hinv i (by omega)).1) hinj
    omega
theorem border_one : ∀ n, n < 9 → ∀ t, t < 3 * n → (bothN n (inner (bp n t))).length = 1 ∧ (bp n t).1 ≠ (bp n t).2 := by decide +kernel
theorem doorB_comm (xs : List Int) (i j : Int) : doorB xs i j = doorB xs j i := by
  simp only [doorB, Int.add_comm]
theorem drB_inner (xs : List Int) (p : Int × Int) : drB xs (inner p) = drB xs p := by
  obtain ⟨a, b⟩ := p
  by_cases h : a < b
  · rw [inner_sorted h]
  · have e : inner (a, b) = (b, a) ∨ a = b := by
      simp only [inner]
      by_cases h2 : a = b
      · exact .inr h2
      · rw [if_neg h, if_pos (by omega)]; exact .inl rfl
    rcases e with e | rfl
    · rw [e]; exact doorB_comm xs b a
    · simp [inner, drB]
/-- A walk may begin at each door of the border. -/
theorem goes_border {xs : List Int} {n : Nat} (hL : labB n xs = true) {d : Int × Int} (hd : d ∈ bds n xs) : Goes xs n (-1) d ∧ ∃ k, acrossI n (-1) (inner d) = some k := by
  obtain ⟨h1, h2, hl, hA⟩ := labB_yes hL
  simp only [bds, bps, List.mem_filter, List.mem_map, List.mem_range] at hd
  obtain ⟨⟨t, ht, rfl⟩, hdr⟩ := hd
  obtain ⟨hone, hne⟩ := border_one n (by omega) t ht
  obtain ⟨k, hk⟩ := List.length_eq_one_iff.1 hone
  have hac : acrossI n (-1) (inner (bp n t)) = some k := by
    rw [acrossI, hk, List.find?_cons_of_pos (by simp)]
  have hmem := bothN_lt (n := n) (d := inner (bp n t)) (q := k) (by rw [hk]; simp)
  refine ⟨⟨hne, fun k' hk' => ?_⟩, k, hac⟩
  rw [hac, Option.some.injEq] at hk'
  subst hk'
  have hdc : inner (bp n t) ∈ dcell xs n k := mem_dcell.2 ⟨hmem.2, by rw [drB_inner]; exact hdr⟩
  refine ⟨hmem.1, hdc, walk_ends n xs hL k _ hmem.1 hdc (fun q hq hm => ?_)⟩
  have : q ∈ bothN n (inner (bp n t)) := by
    simp only [bothN, List.mem_filter, List.mem_range, decide_eq_true_eq]
    exact ⟨hq, hm⟩
  rw [hk, List.mem_singleton] at this
  exact this
/-- .. and at the door of a full room, out of it. -/
theorem goes_full {xs : List Int} {n k : Nat} (hL : labB n xs = true) (hk : k < (ci n).length) {d : Int × Int} (hd : dcell xs n k = [d]) : Goes xs n k d := by
  obtain ⟨h1, h2, hl, hA⟩ := labB_yes hL
  have hdm := mem_dcell.1 (by rw [hd]; simp : d ∈ dcell xs n k)
  have hs := cpairs_sorted h2 hk hdm.1
  refine ⟨by omega, fun k0 hk0 => ?_⟩
  rw [inner_sorted hs] at hk0 ⊢
  rw [acrossI_nat] at hk0
  have ha := acrossD_some hk0
  exact ⟨ha.1, mem_dcell.2 ⟨ha.2.1, hdm.2⟩, walk_ends_full n xs hL k d hk hd k0 hk0⟩
end Go.Proofs.Ythkohenobbhhmaa

namespace Go.Proofs.Ythkohenobbhhmaa
open Go.RowKit
set_option maxRecDepth 4000
def lsI (a b : Int) : Int := if a < b then a else b
def gtI (a b : Int) : Int := if a > b then a else b
theorem inner_eq (a b : Int) : inner (a, b) = (lsI a b, gtI a b) := rfl
set_option maxHeartbeats 400000 in
theorem l1Least_any (a b : Int) (w : World) :
    Calls Try.prog 73 #[.int .i64 a, .int .i64 b] w fun e w' => e = .returned (.int .i64 (lsI a b)) ∧ w = w' := by
  by_cases h : a < b
  · have H : Hid (lsI a b = a) := Lib.hid (if_pos h)
    go_enter Try.func73, Try.ntmps73
    go_wp2_with fail
    go_ret
    exact ⟨by rw [H.out]; rfl, rfl⟩
  · have H : Hid (lsI a b = b) := Lib.hid (if_neg h)
    go_enter Try.func73, Try.ntmps73
    go_wp2_with fail
    go_ret
    exact ⟨by rw [H.out]; rfl, rfl⟩
set_option maxHeartbeats 400000 in
theorem l1Great_any (a b : Int) (w : World) :
    Calls Try.prog 74 #[.int .i64 a, .int .i64 b] w fun e w' => e = .returned (.int .i64 (gtI a b)) ∧ w = w' := by
  by_cases h : b < a
  · have H : Hid (gtI a b = a) := Lib.hid (if_pos h)
    go_enter Try.func74, Try.ntmps74
    go_wp2_with fail
    go_ret
    exact ⟨by rw [H.out]; rfl, rfl⟩
  · have H : Hid (gtI a b = b) := Lib.hid (if_neg h)
    go_enter Try.func74, Try.ntmps74
    go_wp2_with fail
    go_ret
    exact ⟨by rw [H.out]; rfl, rfl⟩
set_option maxHeartbeats 400000 in
theorem doInner_any (a b : Int) (w : World) :
    Calls Try.prog 38 #[.int .i64 a, .int .i64 b] w fun e w' => e = .returned (.slice (some ⟨w.heap.size, 0, none⟩) 2 2) ∧ w' = w.alloc (.cells #[.int .i64 (lsI a b), .int .i64 (gtI a b)] 3) := by
  go_enter Try.func38, Try.ntmps38
  go_wp2_with fail
  refine (l1Least_any a b _).mono ?_
  rintro e w1 ⟨rfl, rfl⟩
  go_wp2_with fail
  refine (l1Great_any a b _).mono ?_
  rintro e w1 ⟨rfl, rfl⟩
  go_wp2_with fail
  go_ret
  exact ⟨rfl, rfl⟩
theorem same2_no (a b c d : Int) (k : Nat) (hk : k < 2) (h : [a, b].getD k 0 ≠ [c, d].getD k 0) : (a == c && b == d) = false := by
  match k, hk, h with
  | 0, _, h => simp only [List.getD_cons_zero] at h; simp [h]
  | 1, _, h => simp only [List.getD_cons_succ, List.getD_cons_zero] at h; simp [h]
theorem same2_yes (a b c d : Int) (h : ∀ j, j < 2 → [a, b].getD j 0 = [c, d].getD j 0) : (a == c && b == d) = true := by
  have h0 := h 0 (by omega)
  have h1 := h 1 (by omega)
  simp only [List.getD_cons_succ, List.getD_cons_zero] at h0 h1
  simp [h0, h1]
set_option maxHeartbeats 800000 in
theorem l1Same2_any (a b c d : Int) (p p' : Option Addr) (q q' cap cap' : Nat) (w : World) (h : Rd w p q 0 [a, b]) (h' : Rd w p' q' 0 [c, d]) :
    Calls Try.prog 37 #[.slice p 2 cap, .slice p' 2 cap'] w fun e w' => e = .returned (.bool (a == c && b == d)) ∧ ∃ m, w' = w.drewN m := by
  obtain ⟨hm, hc⟩ := h
  obtain ⟨_, hc'⟩ := h'
  have HC := Lib.hid hc
  have HC' := Lib.hid hc'
  have HNO := Lib.hid (same2_no a b c d)
  have HYE := Lib.hid (same2_yes a b c d)
  clear hc hc' hm
  generalize (a == c && b == d) = res at HNO HYE ⊢
  generalize hX : [a, b] = X at HC HNO HYE
  generalize hY : [c, d] = Y at HC' HNO HYE
  have hXl : Hid (X.length = 2) := Lib.hid (by rw [← hX]; rfl)
  have hYl : Hid (Y.length = 2) := Lib.hid (by rw [← hY]; rfl)
  clear hX hY
  go_enter Try.func37, Try.ntmps37
  go_wp2
  go_loopw [13] (fun v13 wr => ∃ k : Nat, k ≤ 2 ∧ v13 = .int .i64 k ∧ Hid (∀ j, j < k → X.getD j 0 = Y.getD j 0) ∧ ∃ m, wr = w.drewN m) (fun v13 _ => 2 - (intOf v13).toNat)
  case atStart => exact ⟨0, Nat.zero_le _, rfl, Lib.hid (fun j hj => absurd hj (Nat.not_lt_zero _)), 0, rfl⟩
  case round =>
    obtain ⟨k, hk, rfl, hf, m, rfl⟩ := hrel
    by_cases hlt : k < 2
    · obtain ⟨ha, c1⟩ := HC.out k (by rw [hXl.out]; exact hlt)
      obtain ⟨ha', c2⟩ := HC'.out k (by rw [hYl.out]; exact hlt)
      subst ha ha'
      rw [Nat.zero_add] at c1 c2
      have c1 : (w.drewN m).cell? ⟨q, k, none⟩ = some (.int .i64 (X.getD k 0)) := c1
      have c2 : (w.drewN m).cell? ⟨q', k, none⟩ = some (.int .i64 (Y.getD k 0)) := c2
      have hi : (k : Int) < 2 := by omega
      have HS : Hid (X.getD k 0 = Y.getD k 0 → ∀ j, j < k + 1 → X.getD j 0 = Y.getD j 0) := Lib.hid (fun e j hj => by
        rcases Nat.lt_or_ge j k with h | h
        · exact hf.out j h
        · have : j = k := by omega
          rw [this, e])
      have HN := Lib.hid (HNO.out k hlt)
      obtain ⟨w0, hw0⟩ : ∃ w0, w0 = w.drewN m := ⟨_, rfl⟩
      rw [← hw0] at c1 c2 ⊢
      have HW := Lib.hid hw0
      clear hw0 hf
      generalize X.getD k 0 = x at c1 HS HN
      generalize Y.getD k 0 = y at c2 HS HN
      cases hxy : (x != y)
      · have e := Lib.hid (HS.out (by simpa using hxy))
        go_wp2
        go_quiet (fail)
        go_wp2
        go_roundw
        case rel => exact ⟨k + 1, by omega, by go_num, e, _, by rw [HW.out, World.drewN_drewN]⟩
        case measure => simp [intOf]; omega
      · have e := Lib.hid (HN.out (by simpa using hxy))
        go_wp2
        go_quiet (fail)
        go_wp2
        go_ret
        exact ⟨by rw [e.out]; rfl, _, by rw [HW.out, World.drewN_drewN]⟩
    · have e := Lib.hid (HYE.out (fun j hj => hf.out j (by omega)))
      go_wp2
      go_ret
      exact ⟨by rw [e.out]; rfl, m, rfl⟩
/-- The first of the cells with both points that is another one. -/
theorem flt_find (f : Nat → Bool) (m : Nat) (fr : Int) : ((flt f m).find? (fun x => decide (x ≠ fr))).getD (-1) = beyI ((List.range m).find? (fun q => f q && decide ((q : Int) ≠ fr))) := by
  rw [flt, List.find?_map, List.find?_filter]
  have : ((fun x => decide (x ≠ fr)) ∘ fun (j : Nat) => (j : Int)) = fun (j : Nat) => decide ((j : Int) ≠ fr) := rfl
  rw [this]
  have e : (List.range m).find? (fun a => f a && decide ((a : Int) ≠ fr)) = (List.range m).find? (fun a => decide (f a = true ∧ decide ((a : Int) ≠ fr) = true)) := by
    refine find_congr _ fun x _ => ?_
    rw [Bool.eq_iff_iff]; simp
  rw [← e]
  cases (List.range m).find? (fun q => f q && decide ((q : Int) ≠ fr)) <;> rfl
theorem next_eq {n : Nat} (h2 : n ≤ 8) (fr x y : Int) (h : x ≠ y) : ((flt (withB (ci n) x y) (ci n).length).find? (fun x => decide (x ≠ fr))).getD (-1) = beyI (acrossI n fr (inner (x, y))) := by
  rw [flt_find, ← bey_eq h2 fr x y h]
  congr 1
  refine find_congr _ fun q _ => ?_
  rw [beyB, Bool.and_comm, Bool.eq_iff_iff]; simp
theorem ret_next {o : Option Int} {z x : Int} (h : o.getD (-1) = z) (hx : o.getD (-1) = x) : Ending.returned (.int .i64 x) = .returned (.int .i64 z) := by rw [← h, hx]
set_option maxHeartbeats 800000 in
theorem doNext_any (n : Nat) (x y fr : Int) (a a' : Option Addr) (base b' m cap cap' : Nat) (w : World) (h2 : n ≤ 8) (hc : CellsV w base (.slice a m cap) (ci n)) (hr : Rd w a' b' 0 [x, y]) (hb : b' < w.heap.size) (h : x ≠ y) :
    Calls Try.prog 67 #[.slice a m cap, .slice a' 2 cap', .int .i64 fr] w fun e w' => e = .returned (.int .i64 (beyI (acrossI n fr (inner (x, y))))) ∧ Below w.heap.size w w' := by
  have HC := Lib.hid hc
  have HN := Lib.hid (next_eq h2 fr x y h)
  have hbd := ci_bd n h2
  have HM := Lib.hid (fun w' (hc : CellsV w' base (.slice a m cap) (ci n)) => meWith_any (ci n) x y a base m cap w' hc hbd)
  have HFS := Lib.hid (fun k hk h => find_step 0 (flt (withB (ci n) x y) (ci n).length) (fun x => decide (x ≠ fr)) k hk h)
  have hfl := flt_len (withB (ci n) x y) (ci n).length
  obtain ⟨rfl, c0⟩ := hr.2 0 (by simp)
  have c1 := (hr.2 1 (by simp)).2
  rw [Nat.zero_add] at c0 c1
  simp only [List.getD_cons_zero, List.getD_cons_succ] at c0 c1
  clear hc hr
  generalize flt (withB (ci n) x y) (ci n).length = zs at HN HM HFS hfl
  go_enter Try.func67, Try.ntmps67
  go_wp2_with fail
  refine wp_region_mix (fun w' => Below w.heap.size w w') [7] [0, 1, 2, 3, 4, 5, 6, 9, 7, 8] (by kernel_rfl) (by kernel_rfl) (fun _ _ d _ _ h => by cases d <;> exact h) (by kernel_rfl) rfl (Below.refl _ _).drew ?_
  refine mix_take 0 _ ?_ rfl rfl rfl (some 9) rfl (fun w' hw' => ?hv0) ?_
  case hv0 =>
    go_simp
    with_reducible rfl
  simp only [Act.put, List.setIfInBounds_toArray, List.set_cons_zero, List.set_cons_succ]
  refine mix_take 1 _ ?_ rfl rfl rfl (some 10) rfl (fun w' hw' => ?hv1) ?_
  case hv1 =>
    go_simp
    with_reducible rfl
  simp only [Act.put, List.setIfInBounds_toArray, List.set_cons_zero, List.set_cons_succ]
  refine mix_take 2 _ ?_ rfl rfl rfl (some 11) rfl (fun w' hw' => ?hv2) ?_
  case hv2 =>
    go_simp
    with_reducible rfl
  simp only [Act.put, List.setIfInBounds_toArray, List.set_cons_zero, List.set_cons_succ]
  refine mix_take 3 _ ?_ rfl rfl rfl (some 12) rfl (fun w' hw' => ?hv3) ?_
  case hv3 =>
    have c0 := (Below.cell (p := ⟨b', 0, none⟩) hw' hb).trans c0
    have c1 := (Below.cell (p := ⟨b', 1, none⟩) hw' hb).trans c1
    go_simp
    with_reducible rfl
  simp only [Act.put, List.setIfInBounds_toArray, List.set_cons_zero, List.set_cons_succ]
  refine mix_take 4 _ ?_ rfl rfl rfl (some 13) rfl (fun w' hw' => ?hv4) ?_
  case hv4 =>
    go_simp
    with_reducible rfl
  simp only [Act.put, List.setIfInBounds_toArray, List.set_cons_zero, List.set_cons_succ]
  refine mix_take 5 _ ?_ rfl rfl rfl (some 14) rfl (fun w' hw' => ?hv5) ?_
  case hv5 =>
    go_simp
    with_reducible rfl
  simp only [Act.put, List.setIfInBounds_toArray, List.set_cons_zero, List.set_cons_succ]
  refine mix_take 6 _ ?_ rfl rfl rfl (some 15) rfl (fun w' hw' => ?hv6) ?_
  case hv6 =>
    have c0 := (Below.cell (p := ⟨b', 0, none⟩) hw' hb).trans c0
    have c1 := (Below.cell (p := ⟨b', 1, none⟩) hw' hb).trans c1
    go_simp
    with_reducible rfl
  simp only [Act.put, List.setIfInBounds_toArray, List.set_cons_zero, List.set_cons_succ]
  refine mix_take 9 _ ?_ rfl rfl rfl (some 18) rfl (fun w' hw' => ?hv9) ?_
  case hv9 =>
    go_simp
    with_reducible rfl
  simp only [Act.put, List.setIfInBounds_toArray, List.set_cons_zero, List.set_cons_succ]
  refine mix_call 7 _ rfl rfl rfl 88 #[.slice a m cap, .int .i64 x, .int .i64 y] (some 16) rfl ?hr7 ?_
  case hr7 => go_simp
  refine (HM.out _ (cells_now HC.out (Below.refl _ _).drew)).mono ?_
  rintro e w2 ⟨v, rfl, ho2, hb2⟩
  obtain ⟨-, za, zc, zb, rfl, hzx, hzr⟩ := own_shape ho2
  have hB2 : Below w.heap.size w w2 := (Below.refl _ _).drew.trans hb2
  have hzl := hzx.imp_right fun h => own_lt ho2 zb (by rw [h]; rfl)
  have HR := Lib.hid hzr
  refine ⟨_, rfl, hB2, ?_⟩
  simp only [Act.put, List.setIfInBounds_toArray, List.set_cons_zero, List.set_cons_succ]
  refine mix_take 8 _ ?_ rfl rfl rfl (some 17) rfl (fun w' hw' => ?hv8) ?_
  case hv8 =>
    go_simp
    with_reducible rfl
  simp only [Act.put, List.setIfInBounds_toArray, List.set_cons_zero, List.set_cons_succ]
  refine mix_done ?_
  clear c0 c1 ho2 hb2 hzr
  go_wp2_with fail
  go_loop [18] (fun v18 => ∃ k : Nat, k ≤ zs.length ∧ v18 = .int .i64 k ∧ Hid ((zs.take k).find? (fun x => decide (x ≠ fr)) = none)) (fun v18 => zs.length - (intOf v18).toNat)
  case atStart => exact ⟨0, Nat.zero_le _, rfl, Lib.hid (by simp)⟩
  case round =>
    obtain ⟨k, hk, rfl, hf⟩ := hrel
    by_cases hlt : k < zs.length
    · obtain ⟨rfl, c⟩ := HR.out.2 k hlt
      have HS := Lib.hid (HFS.out k hlt hf.out)
      have hki : (k : Int) < (zs.length : Int) := by omega
      rw [Nat.zero_add] at c
      generalize zs.getD k 0 = z at c HS
      cases hz : (z != fr)
      · have e := Lib.hid (HS.out.2 (by simpa using hz))
        go_wp2_with fail
        go_round
        case rel => exact ⟨k + 1, by omega, by go_num, e⟩
        case measure => simp [intOf]; omega
      · have e := Lib.hid (HS.out.1 (by simpa using hz))
        go_wp2_with fail
        go_ret
        exact ⟨ret_next HN.out (by rw [e.out]; rfl), hB2⟩
    · have e : Hid (zs.find? (fun x => decide (x ≠ fr)) = none) := by
        have := hf.out
        rwa [show k = zs.length by omega, List.take_length] at this
      go_wp2_with fail
      go_ret
      exact ⟨ret_next HN.out (by rw [e.out]; rfl), hB2⟩
end Go.Proofs.Ythkohenobbhhmaa

namespace Go.Proofs.Ythkohenobbhhmaa
open Go.RowKit
set_option maxRecDepth 4000
theorem doFull_go (n k : Nat) (xs : List Int) (a a' : Option Addr) (b b' len cap cap' : Nat) (w : World) (hL : labB n xs = true) (hk : k < (ci n).length) (hn : xs.length = len) (h : Rd w a b 0 xs) (h' : Rd w a' b' 0 ((cl n k).map (fun (i : Nat) => (i : Int)))) :
    Calls Try.prog 33 #[.slice a len cap, .slice a' 3 cap'] w fun e w' => e = .returned (.bool (fullB xs n k)) ∧ w = w' := by
  obtain ⟨h1, h2, hl, hA⟩ := labB_yes hL
  have := (Pr.cnt_le n (by omega)).1
  exact doFull_any xs (cl n k) a a' b b' len 3 cap cap' w hn rfl h h' hA (cl_in n k xs hL hk) (by simp [cl]) (by omega)
theorem doOfCell_go (n k : Nat) (xs : List Int) (a a' : Option Addr) (b b' len cap cap' : Nat) (w : World) (hL : labB n xs = true) (hk : k < (ci n).length) (hn : xs.length = len) (h : Rd w a b 0 xs) (h' : Rd w a' b' 0 ((cl n k).map (fun (i : Nat) => (i : Int)))) (hb0 : len = 0 ∨ b < w.heap.size) (hb0' : a' = none ∨ b' < w.heap.size) (hcap : 3 ≤ cap') (hcm : cap' ≤ maxLen) :
    Calls Try.prog 51 #[.slice a len cap, .slice a' 3 cap'] w fun e w' => ∃ v, e = .returned v ∧ CellsV w' w.heap.size v ((dcell xs n k).map lst) ∧ Below w.heap.size w w' := by
  obtain ⟨h1, h2, hl, hA⟩ := labB_yes hL
  have := (Pr.cnt_le n (by omega)).1
  exact doOfCell_any xs (cl n k) a a' b b' len 3 cap cap' w hn rfl h h' hb0 hb0' hcap hA (cl_in n k xs hL hk) (by simp [cl]) hcm
def slen : Value → Nat
  | .slice _ m _ => m
  | _ => 0
theorem lst_at (ps : List (Int × Int)) (k : Nat) (hk : k < ps.length) : (ps.map lst).getD k [] = [(ps.getD k (0, 0)).1, (ps.getD k (0, 0)).2] := by
  simp [List.getD, hk, lst]
theorem oth_eq2 {n k : Nat} (xs : List Int) (p : Int × Int) : (dcell xs n k).find? (fun q => !(q.1 == p.1 && q.2 == p.2)) = otherD xs n k p := by
  refine find_congr _ fun q _ => ?_
  obtain ⟨a, b⟩ := q
  obtain ⟨c, d⟩ := p
  rw [Bool.eq_iff_iff]
  simp only [Bool.not_eq_true', Bool.and_eq_false_iff, beq_eq_false_iff_ne, decide_eq_true_eq, ne_eq, Prod.mk.injEq, Decidable.not_and_iff_or_not]
/-- What the model's walk answers: the rooms, and the last door. -/
def DWalked (w : World) (L : List Nat) (D : Int × Int) (e : Ending) (w' : World) : Prop :=
  ∃ v pd bd cd, e = .returned (.tuple #[v, .slice pd 2 cd]) ∧ w'.ownsRow w.heap.size 3 1 v L.length ((ints L).map (Value.int .i64)) ∧ Rd w' pd bd 0 [D.1, D.2] ∧ bd < w'.heap.size ∧ Below w.heap.size w w'
theorem dwalked_of {w w9 : World} {L out : List Nat} {R : (Int × Int) × Bool} {u v : Int} {f : Bool} {pv : Value} {pd : Option Addr} {bd cd : Nat} (hR : out = L ∧ R = ((u, v), f)) (ho : w9.ownsRow w.heap.size 3 1 pv (ints out).length ((ints out).map (Value.int .i64))) (hr : Rd w9 pd bd 0 [u, v]) (hb : bd < w9.heap.size) (hB : Below w.heap.size w w9) :
    DWalked w L R.1 (.returned (.tuple #[pv, .slice pd 2 cd])) w9 := by
  obtain ⟨rfl, rfl⟩ := hR
  exact ⟨pv, pd, bd, cd, rfl, by rw [ints_len] at ho; exact ho, hr, hb, hB⟩
set_option maxHeartbeats 3200000 in
theorem doWalk_any (n : Nat) (xs : List Int) (base : Nat) (ca : Option Addr) (cm cc : Nat) (a : Option Addr) (b len cap : Nat) (pd0 : Option Addr) (bd0 cd0 : Nat) (x y cell : Int) (s0 : Nat × (Int × Int)) (L : List Nat) (R : (Int × Int) × Bool) (w : World)
    (hL : labB n xs = true) (hc : CellsV w base (.slice ca cm cc) (ci n)) (hn : xs.length = len) (h : Rd w a b 0 xs) (hb0 : len = 0 ∨ b < w.heap.size) (hd : Rd w pd0 bd0 0 [x, y]) (hbd0 : bd0 < w.heap.size) (hxy : x < y) (hat : At xs n s0 L R [] cell (x, y)) :
    Calls Try.prog 66 #[.slice ca cm cc, .slice a len cap, .slice pd0 2 cd0, .int .i64 cell] w (DWalked w L R.1) := by
  obtain ⟨h1, h2, hl, hA⟩ := labB_yes hL
  have hbd := ci_bd n h2
  obtain ⟨rfl, -⟩ := cells_row hc
  have HL := Lib.hid hL
  have HC := Lib.hid (fun w' (hb : Below w.heap.size w w') => cells_now hc hb)
  have HRD := Lib.hid (fun w' (hb : Below w.heap.size w w') => h.later hn hb0 hb)
  have HRB := Lib.hid (fun w' (hb : Below w.heap.size w w') => lt_later hb0 hb)
  have HN := Lib.hid hn
  have HAT := Lib.hid hat
  have HD := Lib.hid hd
  clear hL hc h hat hd hn hA hl hb0
  go_enter Try.func66, Try.ntmps66
  go_wp2_with fail
  go_loopw [2, 3, 10] (fun v2 v3 v10 wr => ∃ (out : List Nat) (u v room : Int) (pd : Option Addr) (bd cd : Nat), v2 = .slice pd 2 cd ∧ Hid (Rd wr pd bd 0 [u, v]) ∧ bd < wr.heap.size ∧ v10.ownBlock ≠ some bd ∧ v3 = .int .i64 room ∧ u < v ∧ Hid (At xs n s0 L R out room (u, v)) ∧
    wr.ownsRow w.heap.size 3 1 v10 (ints out).length ((ints out).map (Value.int .i64)) ∧ Below w.heap.size w wr) (fun _ _ v10 _ => (ci n).length + 1 - slen v10)
  case atStart => exact ⟨[], x, y, cell, pd0, bd0, cd0, rfl, HD, hbd0, (by simp [Value.ownBlock]), rfl, hxy, HAT, World.ownsRow_nil _ _ _ _, Below.refl _ _⟩
  case round =>
    obtain ⟨out, u, v, room, pd, bd, cd, rfl, hrd, hbd1, hne1, rfl, huv, hat, ho, hB⟩ := hrel
    obtain ⟨-, pa, pc, pb, rfl, hpx, -⟩ := own_shape ho
    obtain ⟨wi, hwi⟩ : ∃ wi : World, wi = wr := ⟨_, rfl⟩
    subst hwi
    have hs := hB.size
    by_cases hrm : room = -1
    · have hend : out = L ∧ R = ((u, v), false) := by
        rcases hat.out with ⟨k, hk, -⟩ | ⟨-, h⟩
        · omega
        · rwa [inner_sorted huv] at h
      have HE := Lib.hid hend
      have hneg : room < 0 := by omega
      clear hrm hend hat
      go_wp2_with fail
      go_ret2
      exact dwalked_of HE.out ho hrd.out hbd1 hB
    · obtain ⟨k, rfl, hk, hol, hin, hfu, hno, hso⟩ := at_room HL.out hat.out hrm
      rw [inner_sorted huv] at hno hso hin hfu
      have HNO := Lib.hid hno
      have HSO := Lib.hid hso
      have HFU := Lib.hid hfu
      have HIL := Lib.hid (ints_len out)
      have hil2 : ((ints out).length : Int) ≤ ((ci n).length : Int) := by rw [HIL.out]; omega
      have hil3 : (ints out).length < 2000 := by rw [HIL.out]; omega
      have hki : (k : Int) < ((ci n).length : Int) := by omega
      clear hat hin hfu hno hso hrm
      have HNE := Lib.hid hne1
      clear hne1
      go_wp2_with (at_builtin; refine append_int_at w.heap.size wi _ (ints out) _ rfl _ _ rfl rfl rfl ho hs (by omega) ?_; intro v' w6 ho6 hb6 hk6 hn6; rw [← ints_app] at ho6; obtain ⟨-, pa', pc', pb', rfl, hpx', -⟩ := own_shape ho6; have hB6 := hB.trans hb6; obtain ⟨-, g, ra, rc, rb, rfl, c1, hr1, hrb1, hrc1, hrc2⟩ := spec_cell3 h2 (HC.out w6 hB6) hk)
      refine (doFull_go n k xs a ra b rb len cap rc w6 HL.out hk HN.out (HRD.out w6 hB6) hr1).mono ?_
      rintro e w7 ⟨rfl, rfl⟩
      have hbe := hk6 bd hbd1 HNE.out
      have hrd6 : Hid (Rd w6 pd bd 0 [u, v]) := Lib.hid ⟨hrd.out.1, fun j hj => ⟨(hrd.out.2 j hj).1, (World.cell?_of_block (a := ⟨bd, 0 + j, none⟩) hbe).trans (hrd.out.2 j hj).2⟩⟩
      have hbd6 : bd < w6.heap.size := Nat.lt_of_not_le fun hge => by
        have e1 : w6.heap[bd]? = none := Array.getElem?_eq_none hge
        rw [e1] at hbe
        have e2 : wi.heap[bd]? = some wi.heap[bd] := Array.getElem?_eq_getElem hbd1
        rw [e2] at hbe
        cases hbe
      have hne6 := Lib.hid (hn6 bd hbd1 HNE.out)
      clear ho hB hb6 hbe hk6 hn6 hrd hbd1
      cases hf : fullB xs n k
      · obtain ⟨d, hod⟩ : ∃ d, otherD xs n k (u, v) = some d := by
          rw [hf] at HFU
          cases ho : otherD xs n k (u, v) with
          | none => rw [ho] at HFU; exact absurd HFU.out (by simp)
          | some d => exact ⟨d, rfl⟩
        obtain ⟨hd1, hd2, hat⟩ := HSO.out d hod
        have HAT2 := Lib.hid hat
        have HD1 := Lib.hid hd1
        have HD2 := Lib.hid hd2
        have HFS := Lib.hid (fun q hq h => find_step (0, 0) (dcell xs n k) (fun q => !(q.1 == u && q.2 == v)) q hq h)
        have HOD := Lib.hid ((oth_eq2 xs (u, v)).trans hod)
        have hdl : (dcell xs n k).length ≤ 3 := Nat.le_trans (List.length_filter_le _ _) (by simp [cpairs])
        have HLA := Lib.hid (lst_at (dcell xs n k))
        clear hat hf hod hd1 hd2
        go_wp2_with fail
        refine (doOfCell_go n k xs a ra b rb len cap rc w6 HL.out hk HN.out (HRD.out w6 hB6) hr1 (HRB.out w6 hB6) hrb1 hrc1 hrc2).mono ?_
        rintro e w7 ⟨vv, rfl, hc7, hb7⟩
        obtain ⟨sa, sm, sc, rfl⟩ := cells_shape hc7
        obtain ⟨rfl, -, hrows⟩ := cells_row hc7
        have HRW := Lib.hid hrows
        have HML : Hid (((dcell xs n k).map lst).length = (dcell xs n k).length) := Lib.hid (by simp)
        have hB7 := bnext hB6 hb7
        have ho7 := own_now ho6 hb7
        have hrd7 : Hid (Rd w7 pd bd 0 [u, v]) := Lib.hid (hrd6.out.below hb7 (.inr hbd6))
        have hs7 := hb7.size
        have HLT7 := Lib.hid (own_lt ho6)
        clear hrows hc7 ho6 hb7 hrd6 c1 hr1 hrb1
        rw [HML.out]
        generalize hps : dcell xs n k = ps at hdl HFS HOD HLA HRW HML
        clear hps
        go_wp2_with fail
        go_loopw [2, 39] (fun v2 v39 wr => ∃ q : Nat, q ≤ ps.length ∧ v2 = .slice pd 2 cd ∧ v39 = .int .i64 q ∧ Hid ((ps.take q).find? (fun q => !(q.1 == u && q.2 == v)) = none) ∧ ∃ m, wr = w7.drewN m) (fun _ v39 _ => ps.length - (intOf v39).toNat)
        case atStart => exact ⟨0, Nat.zero_le _, rfl, rfl, Lib.hid (by simp), 0, rfl⟩
        case round =>
          obtain ⟨q, hq, rfl, rfl, hfq, m, rfl⟩ := hrel
          by_cases hlt : q < ps.length
          · obtain ⟨rg, qa, qc, qb, rfl, hrg, hrgl, cq1, hqx, hqr, hqo, -⟩ := HRW.out q (by rw [HML.out]; exact hlt)
            rw [HLA.out q hlt] at cq1 hqr
            have HS := Lib.hid (HFS.out q hlt hfq.out)
            have hqi : (q : Int) < (ps.length : Int) := by omega
            have HQB : Hid (w6.heap.size ≤ qb ∧ qb < w7.heap.size) := by
              refine Lib.hid ?_
              rcases hqx with h | ⟨h, h3, -⟩
              · have := (hqr.2 0 (by simp)).1
                rw [h] at this
                cases this
              · exact ⟨(hqo.lt qb (by rw [h]; rfl)).1, h3⟩
            generalize ps.getD q (0, 0) = p at cq1 hqr HS hqo
            obtain ⟨p1, p2⟩ := p
            simp only at cq1 hqr
            have cq1 : (w7.drewN m).cell? ⟨rg, q, none⟩ = some (.slice qa 2 qc) := cq1
            have HQR : Hid (Rd (w7.drewN m) qa qb 0 [p1, p2]) := Lib.hid (hqr.drewN m)
            have HRD7 : Hid (Rd (w7.drewN m) pd bd 0 [u, v]) := Lib.hid (hrd7.out.drewN m)
            have ho8 := own_now ho7 (below_drewN (Below.refl w7.heap.size w7) m)
            have hB8 := below_drewN hB7 m
            have hsd : (w7.drewN m).heap.size = w7.heap.size := rfl
            obtain ⟨w8, hw8⟩ : ∃ w8, w8 = w7.drewN m := ⟨_, rfl⟩
            rw [← hw8] at cq1 HQR HRD7 ho8 hB8 hsd ⊢
            have HW8 := Lib.hid hw8
            clear hw8 hqr hqo hqx
            go_wp2_with fail
            refine (l1Same2_any p1 p2 u v qa pd qb bd qc cd w8 HQR.out HRD7.out).mono ?_
            rintro e w9 ⟨rfl, m2, rfl⟩
            cases hsm : (p1 == u && p2 == v)
            · have e := (HS.out.1 (by simp only [hsm]; rfl)).symm.trans HOD.out
              simp only [Option.some.injEq] at e
              subst e
              have hqr9 : Rd (w8.drewN m2) qa qb 0 [p1, p2] := HQR.out.drewN m2
              have ho9 := own_now ho8 (below_drewN (Below.refl w8.heap.size w8) m2)
              have hB9 := below_drewN hB8 m2
              have hsd9 : (w8.drewN m2).heap.size = w7.heap.size := hsd
              clear hsm HS HQR HRD7 ho8 hB8 cq1 hrd7 HW8
              generalize w8.drewN m2 = w10 at hqr9 ho9 hB9 hsd9 ⊢
              have HC10 := HC.out w10 hB9
              go_wp2_with fail
              refine (doNext_any n p1 p2 (k : Int) _ qa base qb _ _ qc w10 h2 HC10 hqr9 (by have := HQB.out.2; omega) (by have := HD1.out; omega)).mono ?_
              rintro e w11 ⟨rfl, hb11⟩
              rw [HD2.out]
              have ho11 := own_now ho9 hb11
              have hqr11 : Hid (Rd w11 qa qb 0 [p1, p2]) := Lib.hid (hqr9.below hb11 (.inr (by have := HQB.out.2; omega)))
              have hs11 := hb11.size
              have HOL : Hid ((ints (out ++ [k])).length = out.length + 1) := Lib.hid (by rw [ints_len, List.length_append]; rfl)
              go_wp2_with fail
              go_roundw
              case rel => exact ⟨out ++ [k], p1, p2, _, qa, qb, qc, rfl, hqr11, by have := HQB.out.2; omega, (fun e => by have := HLT7.out qb e; have := HQB.out.1; omega), rfl, by simpa using HD1.out, HAT2, ho11, bnext hB9 hb11⟩
              case measure =>
                have e1 := HOL.out
                have e2 := HIL.out
                simp only [slen]
                omega
            · have e := Lib.hid (HS.out.2 (by simp only [hsm]; rfl))
              clear hsm
              go_wp2_with fail
              go_roundw
              case rel => exact ⟨q + 1, by omega, rfl, by go_num, e, _, by rw [HW8.out, World.drewN_drewN]⟩
              case measure => simp [intOf]; omega
          · exfalso
            have := hfq.out
            rw [show q = ps.length by omega, List.take_length, HOD.out] at this
            cases this
      · have hod : otherD xs n k (u, v) = none := by
          rw [hf] at HFU
          cases ho : otherD xs n k (u, v) with
          | none => rfl
          | some d => rw [ho] at HFU; exact absurd HFU.out (by simp)
        have HE := Lib.hid (HNO.out hod)
        clear hf hod
        go_wp2_with fail
        go_ret2
        exact dwalked_of HE.out ho6 hrd6.out hbd6 hB6
end Go.Proofs.Ythkohenobbhhmaa
