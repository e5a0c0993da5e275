import Derived.Test.YtokhpchnnilbaaaRows
import Derived.BigQuiet
import Derived.Deep.QuietTactic
import Derived.Handy
import Derived.Lib.Hide
import Derived.Maps.AppendAt
import Derived.OrdersHeld
import Derived.RegionTactic
import Derived.WalkKit
import Derived.WalkLawsBesides
import Derived.WalkSpells
namespace Go.Proofs.Ytokhpchnnilbaaa.Pr
/-- The points in front of row k. -/
def T : Nat → Nat
  | 0 => 0
  | k + 1 => T k + (k + 1)
def Rl : List Nat := [0,1,1,2,2,2,3,3,3,3,4,4,4,4,4,5,5,5,5,5,5,6,6,6,6,6,6,6,7,7,7,7,7,7,7,7,8,8,8,8,8,8,8,8,8]
def Cl : List Nat := [0,0,1,0,1,2,0,1,2,3,0,1,2,3,4,0,1,2,3,4,5,0,1,2,3,4,5,6,0,1,2,3,4,5,6,7,0,1,2,3,4,5,6,7,8]
def R (i : Nat) : Nat := Rl.getD i 0
def C (i : Nat) : Nat := Cl.getD i 0
theorem RC_all : ∀ i, i < 45 → T (R i) + C i = i ∧ C i ≤ R i ∧ R i ≤ 8 := by decide
theorem RC_uniq_all : ∀ i, i < 45 → ∀ k, k < 10 → T k ≤ i → i - T k ≤ k → k = R i ∧ i - T k = C i := by decide
theorem T_le (k : Nat) (h : k < 10) : T k ≤ 45 := by
  have : ∀ k, k < 10 → T k ≤ 45 := by decide
  exact this k h
theorem T_mono_one (k : Nat) : T k < T (k + 1) := by simp [T]
theorem T_lt_of (k i : Nat) (hi : i < 45) (h : T k ≤ i) : k < 10 := by
  by_cases hk : k < 10
  · exact hk
  · have g : ∀ j, T 9 + j ≤ T (9 + j) := by
      intro j; induction j with
      | zero => simp
      | succ j ih => have := T_mono_one (9 + j); show _ ≤ T (9 + j + 1); omega
    have := g (k - 9)
    rw [show 9 + (k - 9) = k from by omega] at this
    have h9 : T 9 = 45 := by decide
    omega
/-- number of points -/
def cnt (n : Nat) : Nat := T (n + 1)
theorem cnt_le : ∀ n, n < 9 → cnt n ≤ 45 ∧ cnt n = (n + 1) * (n + 2) / 2 := by decide
theorem R_le_of_lt : ∀ n, n < 9 → ∀ i, i < cnt n → R i ≤ n := by decide
/-- A point that there is. -/
def okPt (n i : Int) : Prop := 1 ≤ n ∧ n ≤ 8 ∧ 0 ≤ i ∧ i < (cnt n.toNat : Nat)
theorem T_succ (k : Nat) : T (k + 1) = T k + (k + 1) := rfl
/-- The end of the loop over the rows. -/
theorem RC_end (i k : Nat) (hi : i < 45) (h : T k ≤ i) (h2 : i - T k ≤ k) : k = R i ∧ i - T k = C i :=
  RC_uniq_all i hi k (T_lt_of k i hi h) h h2
theorem RC_bd (i : Nat) (hi : i < 45) : C i ≤ R i ∧ R i ≤ 8 := ⟨(RC_all i hi).2.1, (RC_all i hi).2.2⟩
end Go.Proofs.Ytokhpchnnilbaaa.Pr

namespace Go.Proofs.Ytokhpchnnilbaaa
open Go.RowKit
set_option maxRecDepth 4000
theorem ret_bool {a b : Bool} (h : a = b) : Ending.returned (.bool a) = .returned (.bool b) := by rw [h]
theorem ret_int {a b : Int} (h : a = b) : Ending.returned (.int .i64 a) = .returned (.int .i64 b) := by rw [h]
theorem bnext {w a b : World} (h : Below w.heap.size w a) (k : Below a.heap.size a b) : Below w.heap.size w b := h.trans (k.mono h.size)
theorem balloc {w a : World} (h : Below w.heap.size w a) (o : Obj) : Below w.heap.size w (a.alloc o) := h.alloc h.size o
theorem cntW : ∀ n : Nat, n < 9 → wrap64 ((wrap64 (((n : Int) + 1) * ((n : Int) + 2))).tdiv 2) = (Pr.cnt n : Nat) := by decide +kernel
def pt (n i : Nat) : List Int := [(n : Int) - (Pr.R i : Nat), (Pr.R i : Int) - (Pr.C i : Nat), (Pr.C i : Nat)]
theorem flip {P : Program} {f : FuncId} {args : Array Value} {w : World} {v : Value} (h : Calls P f args w fun e w' => e = .returned v ∧ w = w') : Calls P f args w fun e w' => e = .returned v ∧ w' = w :=
  h.mono fun _ _ ⟨a, b⟩ => ⟨a, b.symm⟩
set_option maxHeartbeats 400000 in
theorem l1In_yes (n lo hi : Int) (h : lo ≤ n ∧ n ≤ hi) (w : World) :
    Calls Try.prog 62 #[.int .i64 n, .int .i64 lo, .int .i64 hi] w fun e w' => e = .returned (.bool true) ∧ w = w' := by
  obtain ⟨h1, h2⟩ := h
  go_enter Try.func62, Try.ntmps62
  go_wp2_with fail
  go_ret
  exact ⟨ret_bool (by simp), rfl⟩
set_option maxHeartbeats 400000 in
theorem l1In_no (n lo hi : Int) (h : ¬ (lo ≤ n ∧ n ≤ hi)) (w : World) :
    Calls Try.prog 62 #[.int .i64 n, .int .i64 lo, .int .i64 hi] w fun e w' => e = .returned (.bool false) ∧ w = w' := by
  by_cases h1 : lo ≤ n
  · have h2 : ¬ n ≤ hi := fun h2 => h ⟨h1, h2⟩
    clear h
    go_enter Try.func62, Try.ntmps62
    go_wp2_with fail
    go_ret
    exact ⟨ret_bool (by simp), rfl⟩
  · clear h
    go_enter Try.func62, Try.ntmps62
    go_wp2_with fail
    go_ret
    exact ⟨ret_bool (by simp), rfl⟩
end Go.Proofs.Ytokhpchnnilbaaa

namespace Go.Proofs.Ytokhpchnnilbaaa
open Go.RowKit
set_option maxRecDepth 4000
/-- The slice at 'a' holds the numbers xs. -/
def Rd (w : World) (a : Option Addr) (b off : Nat) (xs : List Int) : Prop :=
  xs.length ≤ maxLen ∧ ∀ j, j < xs.length → a = some ⟨b, off, none⟩ ∧ w.cell? ⟨b, off + j, none⟩ = some (.int .i64 (xs.getD j 0))
/-- What a call owns: its slice, and the block where it lies. -/
theorem own_shape {w : World} {base n : Nat} {et : TypeId} {v : Value} {xs : List Int} (h : w.ownsRow base et 1 v n (xs.map (Value.int .i64))) :
    n = xs.length ∧ ∃ a cap b, v = .slice a n cap ∧ (a = none ∨ a = some ⟨b, 0, none⟩) ∧ Rd w a b 0 xs := by
  obtain ⟨h1, h2⟩ := h
  have hn : n = xs.length := by simpa using h1.symm
  refine ⟨hn, ?_⟩
  rcases h2 with ⟨rfl, h0⟩ | ⟨g, cap, cur, rfl, hg, hh, hc, hm, hs, ht⟩
  · subst h0
    have : xs = [] := List.eq_nil_of_length_eq_zero hn.symm
    subst this
    exact ⟨none, 0, 0, rfl, .inl rfl, by simp [maxLen], fun j hj => by simp at hj⟩
  · refine ⟨_, cap, g, rfl, .inr rfl, by rw [← hn]; exact Nat.le_trans hc hm, fun j hj => ⟨rfl, ?_⟩⟩
    rw [cell_of_row w g (0 + j) cur _ (0, 0) hh]
    have e : (cur.toList.take (n * 1))[j]? = (xs.map (Value.int .i64))[j]? := by rw [ht]
    rw [List.getElem?_take, if_pos (by omega)] at e
    simp only [Nat.zero_add]
    rw [← Array.getElem?_toList, e]
    simp [List.getD, hj]
theorem own_later {w w' : World} {base e size n B : Nat} {v : Value} {xs : List Value} (h : w.ownsRow base e size v n xs) (hB : ∀ k, v.ownBlock = some k → k < B) (hb : Below B w w') : w'.ownsRow base e size v n xs := by
  obtain ⟨h1, h2⟩ := h
  refine ⟨h1, ?_⟩
  rcases h2 with h2 | ⟨g, cap, cur, rfl, hg, hh, r⟩
  · exact .inl h2
  · exact .inr ⟨g, cap, cur, rfl, hg, by rw [hb.block g (hB g rfl)]; exact hh, r⟩
theorem own_lt {w : World} {base e size n : Nat} {v : Value} {xs : List Value} (h : w.ownsRow base e size v n xs) : ∀ k, v.ownBlock = some k → k < w.heap.size := fun k hk => (h.lt k hk).2
theorem own_now {w w' : World} {base e size n : Nat} {v : Value} {xs : List Value} (h : w.ownsRow base e size v n xs) (hb : Below w.heap.size w w') : w'.ownsRow base e size v n xs := own_later h (own_lt h) hb
/-- Nothing but a count of draws has moved. -/
def Same (w w' : World) : Prop := ∀ B, Below B w w'
theorem Same.refl (w : World) : Same w w := fun B => Below.refl B w
theorem Same.drew {w w' : World} (h : Same w w') : Same w w'.drew := fun B => (h B).drew
theorem Same.drewN {w w' : World} (n : Nat) (h : Same w w') : Same w (w'.drewN n) := fun B => (h B).trans ⟨rfl, rfl, rfl, Nat.le_refl _, fun _ _ => rfl⟩
theorem Same.trans {a b c : World} (h : Same a b) (k : Same b c) : Same a c := fun B => (h B).trans (k B)
theorem Same.cell {w w' : World} (h : Same w w') (p : Addr) : w'.cell? p = w.cell? p := (h (p.block + 1)).cell (Nat.lt_succ_self _)
theorem Same.frozen {w w' : World} (h : Same w w') (p : Addr) : w'.frozen? p = w.frozen? p := (h (p.block + 1)).frozen (Nat.lt_succ_self _)
theorem Rd.same {w w' : World} {a : Option Addr} {b off : Nat} {xs : List Int} (h : Rd w a b off xs) (hs : Same w w') : Rd w' a b off xs := ⟨h.1, fun j hj => ⟨(h.2 j hj).1, (hs.cell _).trans (h.2 j hj).2⟩⟩
theorem Rd.below {w w' : World} {a : Option Addr} {b off B : Nat} {xs : List Int} (h : Rd w a b off xs) (hs : Below B w w') (hB : a = none ∨ b < B) : Rd w' a b off xs :=
  ⟨h.1, fun j hj => ⟨(h.2 j hj).1, by
    rcases hB with hB | hB
    · have := (h.2 j hj).1; rw [hB] at this; cases this
    · exact (hs.cell hB).trans (h.2 j hj).2⟩⟩
set_option maxHeartbeats 400000 in
theorem eqIntS_same (xs : List Int) (a a' : Option Addr) (b off b' off' n n' cap cap' : Nat) (w : World) (hn : xs.length = n) (hn' : xs.length = n') (h : Rd w a b off xs) (h' : Rd w a' b' off' xs) :
    Calls Try.prog 21 #[.slice a n cap, .slice a' n' cap'] w fun e w' => e = .returned (.bool true) ∧ Same w w' := by
  subst hn hn'
  obtain ⟨hm, hc⟩ := h
  obtain ⟨_, hc'⟩ := h'
  unfold maxLen at hm
  have hne : ((xs.length : Int) != (xs.length : Int)) = false := by simp
  have HC := Lib.hid hc
  have HC' := Lib.hid hc'
  clear hc hc'
  go_enter Try.func21, Try.ntmps21
  go_wp2
  go_loopw [5] (fun v5 wr => ∃ k : Nat, k ≤ xs.length ∧ v5 = .int .i64 k ∧ Same w wr) (fun v5 _ => xs.length - (intOf v5).toNat)
  case atStart => exact ⟨0, Nat.zero_le _, rfl, Same.refl _⟩
  case round =>
    obtain ⟨k, hk, rfl, hs⟩ := hrel
    by_cases hlt : k < xs.length
    · obtain ⟨ha, c⟩ := HC.out k hlt
      obtain ⟨ha', c'⟩ := HC'.out k hlt
      subst ha ha'
      have c1 : wr.cell? ⟨b, off + k, none⟩ = some (.int .i64 (xs.getD k 0)) := (hs.cell _).trans c
      have c2 : wr.cell? ⟨b', off' + k, none⟩ = some (.int .i64 (xs.getD k 0)) := (hs.cell _).trans c'
      have hi : (k : Int) < (xs.length : Int) := by omega
      have hne2 : (xs.getD k 0 != xs.getD k 0) = false := by simp
      clear c c'
      go_wp2
      go_quiet (fail)
      go_wp2
      go_roundw
      case rel => exact ⟨k + 1, by omega, by go_num, hs.drewN _⟩
      case measure => simp [intOf]; omega
    · go_wp2
      go_ret
      exact ⟨rfl, hs⟩
set_option maxHeartbeats 400000 in
theorem heldIntS_yes (xs : List Int) (a : Option Addr) (b off n cap : Nat) (k : Int) (w : World) (hn : xs.length = n) (h : Rd w a b off xs) (hk0 : 0 ≤ k) (hk : k + xs.length ≤ 9223372036854775807) (hx : ∀ j : Nat, j < xs.length → xs.getD j 0 = k + j) :
    Calls Try.prog 23 #[.slice a n cap, .int .i64 k] w fun e w' => e = .returned (.int .i64 (k + n)) ∧ w = w' := by
  subst hn
  obtain ⟨hm, hc⟩ := h
  unfold maxLen at hm
  have HC := Lib.hid hc
  have HX := Lib.hid hx
  clear hc hx
  go_enter Try.func23, Try.ntmps23
  go_wp2
  go_loop [1, 5] (fun v1 v5 => ∃ j : Nat, j ≤ xs.length ∧ v5 = .int .i64 j ∧ v1 = .int .i64 (k + j)) (fun _ v5 => xs.length - (intOf v5).toNat)
  case atStart => exact ⟨0, Nat.zero_le _, rfl, by simp⟩
  case round =>
    obtain ⟨j, hj, rfl, rfl⟩ := hrel
    by_cases hlt : j < xs.length
    · obtain ⟨ha, c⟩ := HC.out j hlt
      have x := HX.out j hlt
      rw [x] at c
      subst ha
      have hne2 : ((k + (j : Int)) != (k + (j : Int))) = false := by simp
      clear x
      go_wp2
      go_round
      case rel => exact ⟨j + 1, by omega, by go_num, by simp; omega⟩
      case measure => simp [intOf]; omega
    · have hj2 : j = xs.length := by omega
      subst hj2
      go_wp2
      go_ret
      exact ⟨rfl, rfl⟩
/-- What a row holds when its first j cells are marked. -/
def mkd (k : Int) (j : Nat) (xs : List Int) : List Int := (List.range j).map (fun (i : Nat) => k + (i : Int)) ++ xs.drop j
theorem mkd_zero (k : Int) (xs : List Int) : mkd k 0 xs = xs := by simp [mkd]
theorem mkd_len (k : Int) (j : Nat) (xs : List Int) (h : j ≤ xs.length) : (mkd k j xs).length = xs.length := by simp [mkd]; omega
theorem mkd_set (k : Int) (j : Nat) (xs : List Int) (h : j < xs.length) : ((mkd k j xs).map (Value.int .i64)).set j (.int .i64 (k + j)) = (mkd k (j + 1) xs).map (Value.int .i64) := by
  apply List.ext_getElem?
  intro i
  simp only [mkd, List.map_append, List.getElem?_set, List.length_append, List.length_map, List.length_range, List.length_drop, List.getElem?_append, List.getElem?_map, List.getElem?_drop]
  by_cases h1 : j = i
  · subst h1
    simp; omega
  · by_cases h2 : i < j
    · simp [h1, h2, show i < j + 1 by omega]
    · simp [h1, h2, show ¬ i < j + 1 by omega, show j + (i - j) = i by omega, show j + 1 + (i - (j + 1)) = i by omega]
theorem mkd_all (k : Int) (xs : List Int) (j : Nat) (h : j < xs.length) : (mkd k xs.length xs).getD j 0 = k + j := by
  simp [mkd, List.getD, h]
set_option maxHeartbeats 400000 in
theorem markIntS_any (et : TypeId) (xs : List Int) (a : Option Addr) (base n cap : Nat) (k : Int) (w : World) (ho : w.ownsRow base et 1 (.slice a n cap) n (xs.map (Value.int .i64))) (hk0 : 0 ≤ k) (hk : k + xs.length ≤ 9223372036854775807) :
    Calls Try.prog 22 #[.slice a n cap, .int .i64 k] w fun e w' => e = .returned (.int .i64 (k + n)) ∧ w'.ownsRow base et 1 (.slice a n cap) n ((mkd k n xs).map (Value.int .i64)) ∧ Below base w w' := by
  obtain ⟨hn, a', cap', b, hv, ha, hrd⟩ := own_shape ho
  simp only [Value.slice.injEq] at hv
  obtain ⟨rfl, _, rfl⟩ := hv
  have hm := hrd.1
  unfold maxLen at hm
  rw [← hn] at hm hk
  have HR := Lib.hid hrd
  have HN := Lib.hid hn
  clear hrd hn
  go_enter Try.func22, Try.ntmps22
  go_wp2
  go_loopw [1, 5] (fun v1 v5 wr => ∃ j : Nat, j ≤ n ∧ v5 = .int .i64 j ∧ v1 = .int .i64 (k + j) ∧ wr.ownsRow base et 1 (.slice a n cap) n ((mkd k j xs).map (Value.int .i64)) ∧ Below base w wr) (fun _ v5 _ => n - (intOf v5).toNat)
  case atStart => exact ⟨0, Nat.zero_le _, rfl, by simp, by rw [mkd_zero]; exact ho, Below.refl _ _⟩
  case round =>
    obtain ⟨j, hj, rfl, rfl, hw, hb⟩ := hrel
    by_cases hlt : j < n
    · have haa : a = some ⟨b, 0, none⟩ := by
        rcases ha with rfl | rfl
        · exact (HR.out.2 j (by have := HN.out; omega)).1
        · rfl
      subst haa
      have hf := hw.frozenAt j
      have hc := hw.cellAt j (by omega)
      have hst := hw.stored j (.int .i64 (k + j))
      rw [mkd_set k j xs (by have := HN.out; omega)] at hst
      have hbase : base ≤ b := (hw.lt b rfl).1
      have HS := Lib.hid hst
      have hl : j < ((mkd k j xs).map (Value.int .i64)).length := by rw [List.length_map, mkd_len _ _ _ (by have := HN.out; omega)]; have := HN.out; omega
      rw [List.getElem?_eq_getElem hl] at hc
      generalize ((mkd k j xs).map (Value.int .i64))[j] = old at hc
      clear hst hw hl ho
      go_wp2
      go_roundw
      case rel => exact ⟨j + 1, by omega, by go_num, by simp; omega, HS.out.1, hb.setCell hbase _⟩
      case measure => simp [intOf]; omega
    · have hj2 : j = n := by omega
      subst hj2
      go_wp2
      go_ret
      exact ⟨rfl, hw, hb⟩
/-- What a function does that answers a list of numbers, and whether it succeeds. -/
def Gives (w : World) (et : TypeId) (xs : List Int) (ok : Bool) (e : Ending) (w' : World) : Prop :=
  ∃ v, e = .returned (.tuple #[v, .bool ok]) ∧ w'.ownsRow w.heap.size et 1 v xs.length (xs.map (Value.int .i64)) ∧ Below w.heap.size w w'
theorem below_same {B : Nat} {a b c : World} (h : Below B a b) (k : Same b c) : Below B a c := h.trans (k B)
theorem own_same {w w' : World} {base e size n : Nat} {v : Value} {xs : List Value} (h : w.ownsRow base e size v n xs) (k : Same w w') : w'.ownsRow base e size v n xs := own_now h (k _)
theorem gives_none {w w' : World} {et : TypeId} (hb : Below w.heap.size w w') : Gives w et [] false (.returned (.tuple #[.slice none 0 0, .bool false])) w' := ⟨_, rfl, World.ownsRow_nil _ _ _ _, hb⟩
/-- A block that the call made, whole. -/
theorem own_block {w : World} {base g cap : Nat} {et : TypeId} {xs : List Int} {cur : Array Value} (hg : base ≤ g) (hh : w.heap[g]? = some (.cells cur et (0, 0))) (hc : cur.toList = xs.map (Value.int .i64)) (hcap : cap = xs.length) (hm : cap ≤ maxLen) :
    w.ownsRow base et 1 (.slice (some ⟨g, 0, none⟩) xs.length cap) xs.length (xs.map (Value.int .i64)) := by
  refine ⟨by simp, .inr ⟨g, cap, cur, rfl, hg, hh, by omega, hm, ?_, ?_⟩⟩
  · rw [← Array.length_toList, hc]; simp [hcap]
  · rw [hc, List.take_of_length_le (by simp)]
end Go.Proofs.Ytokhpchnnilbaaa

namespace Go.Proofs.Ytokhpchnnilbaaa
open Go.RowKit
set_option maxRecDepth 4000
theorem intInfo : (Try.prog.info? 3).map (fun i => (i.zero, i.size, i.bytes)) = some (some (.int .i64 0), 1, 8) := by kernel_rfl
/-- One number more at the end of a slice of the call's own: the number lies in a new block of one cell. -/
theorem append_int {ops : Array Oper} {rest : List Oper} {o : Oper} {a : Act} {Q : Exit → Act → World → Prop} (base : Nat) (w0 : World) (v : Value) (xs : List Int) (x : Int)
    (hgd : o.guard = none) (s y : Operand) (ho : o.op = .call { callee := .builtin .append, args := #[s, y], argTypes := #[25, 25] })
    (hs : a.eval s = v) (hx : a.eval y = .slice (some ⟨w0.heap.size, 0, none⟩) 1 1)
    (hown : w0.ownsRow base 3 1 v xs.length (xs.map (Value.int .i64))) (hbase : base ≤ w0.heap.size) (hlen : xs.length < 1000000000000)
    (h : ∀ v' w', w'.ownsRow base 3 1 v' (xs ++ [x]).length ((xs ++ [x]).map (Value.int .i64)) → Below base w0 w' → wpList Try.prog ops Q rest (a.put o.dst v') w') :
    wpList Try.prog ops Q (o :: rest) a (w0.alloc (.cells #[.int .i64 x] 3)) := by
  obtain ⟨i0, hi, hz0, hz1, hz2⟩ := info_parts intInfo
  refine wpList_append_own _ hgd s y 25 ho base 3 i0 (.int .i64 0) 1 8 Try.underlying25 hi hz0 hz1 hz2 rfl (by decide) v xs.length _ hs (hown.alloc _) ⟨w0.heap.size, 0, none⟩ 1 1 [.int .i64 x] hx rfl ?_ ?_ ?_ ?_ ?_ ?_
  · intro j u hj
    match j, hj with
    | 0, hj => simp at hj; subst hj; simp [Addr.add]
  · intro u hu; simp at hu; subst hu; rfl
  · unfold maxLen; omega
  · omega
  · simp; omega
  · intro v' w1 hown' hgrow _
    refine h v' w1 (by simpa using hown') ?_
    exact ((Below.refl base w0).alloc hbase _).grown hgrow (by simp; omega) (fun k hk => (hown.lt k hk).1)
/-- append_int where the new block's number is spelled otherwise. -/
theorem append_intg {ops : Array Oper} {rest : List Oper} {o : Oper} {a : Act} {Q : Exit → Act → World → Prop} (base g : Nat) (w0 : World) (v : Value) (xs : List Int) (x : Int)
    (hgd : o.guard = none) (s y : Operand) (ho : o.op = .call { callee := .builtin .append, args := #[s, y], argTypes := #[25, 25] })
    (hs : a.eval s = v) (hx : a.eval y = .slice (some ⟨g, 0, none⟩) 1 1) (hg : g = w0.heap.size)
    (hown : w0.ownsRow base 3 1 v xs.length (xs.map (Value.int .i64))) (hbase : base ≤ w0.heap.size) (hlen : xs.length < 1000000000000)
    (h : ∀ v' w', w'.ownsRow base 3 1 v' (xs ++ [x]).length ((xs ++ [x]).map (Value.int .i64)) → Below base w0 w' → wpList Try.prog ops Q rest (a.put o.dst v') w') :
    wpList Try.prog ops Q (o :: rest) a (w0.alloc (.cells #[.int .i64 x] 3)) := by
  subst hg
  exact append_int base w0 v xs x hgd s y ho hs hx hown hbase hlen h
end Go.Proofs.Ytokhpchnnilbaaa

namespace Go.Proofs.Ytokhpchnnilbaaa
open Go.RowKit
set_option maxRecDepth 4000
/-- append_int, and where the slice lies behind it, and that no block but its own has turned. -/
theorem append_int_at {ops : Array Oper} {rest : List Oper} {o : Oper} {a : Act} {Q : Exit → Act → World → Prop} (base : Nat) (w0 : World) (v : Value) (xs : List Int) (x : Int)
    (hgd : o.guard = none) (s y : Operand) (ho : o.op = .call { callee := .builtin .append, args := #[s, y], argTypes := #[25, 25] })
    (hs : a.eval s = v) (hx : a.eval y = .slice (some ⟨w0.heap.size, 0, none⟩) 1 1)
    (hown : w0.ownsRow base 3 1 v xs.length (xs.map (Value.int .i64))) (hbase : base ≤ w0.heap.size) (hlen : xs.length < 1000000000000)
    (h : ∀ v' w', w'.ownsRow base 3 1 v' (xs ++ [x]).length ((xs ++ [x]).map (Value.int .i64)) → Below base w0 w' → (∀ q, q < w0.heap.size → v.ownBlock ≠ some q → w'.heap[q]? = w0.heap[q]?) → (∀ q, q < w0.heap.size → v.ownBlock ≠ some q → v'.ownBlock ≠ some q) → wpList Try.prog ops Q rest (a.put o.dst v') w') :
    wpList Try.prog ops Q (o :: rest) a (w0.alloc (.cells #[.int .i64 x] 3)) := by
  obtain ⟨i0, hi, hz0, hz1, hz2⟩ := info_parts intInfo
  refine wpList_append_own_at _ hgd s y 25 ho base 3 i0 (.int .i64 0) 1 8 Try.underlying25 hi hz0 hz1 hz2 rfl (by decide) v xs.length _ hs (hown.alloc _) ⟨w0.heap.size, 0, none⟩ 1 1 [.int .i64 x] hx rfl ?_ ?_ ?_ ?_ ?_ ?_
  · intro j u hj
    match j, hj with
    | 0, hj => simp at hj; subst hj; simp [Addr.add]
  · intro u hu; simp at hu; subst hu; rfl
  · unfold maxLen; omega
  · omega
  · simp; omega
  · intro v' w1 hown' hgrow _ hat
    refine h v' w1 (by simpa using hown') ?_ (fun q hq hne => ?_) (fun q hq hne e => ?_)
    · exact ((Below.refl base w0).alloc hbase _).grown hgrow (by simp; omega) (fun k hk => (hown.lt k hk).1)
    · rw [hgrow.block q (by simp; omega) (fun e => hne e.symm)]
      exact Below.heap_alloc _ _ _ hq
    · rcases hat with h1 | h1
      · exact hne (h1 ▸ e)
      · rw [h1, Option.some.injEq, World.size_alloc] at e
        omega
end Go.Proofs.Ytokhpchnnilbaaa

namespace Go.Proofs.Ytokhpchnnilbaaa
open Go.RowKit
set_option maxRecDepth 4000
/-- One number more within the capacity: the slice stays where it is. -/
theorem append_fit_int {ops : Array Oper} {rest : List Oper} {o : Oper} {a : Act} {Q : Exit → Act → World → Prop} (base g cap m gn : Nat) (w0 : World) (xs : List Int) (x : Int)
    (hgd : o.guard = none) (s y : Operand) (ho : o.op = .call { callee := .builtin .append, args := #[s, y], argTypes := #[25, 25] })
    (hs : a.eval s = .slice (some ⟨g, 0, none⟩) m cap) (hx : a.eval y = .slice (some ⟨gn, 0, none⟩) 1 1) (hg : gn = w0.heap.size)
    (hown : w0.ownsRow base 3 1 (.slice (some ⟨g, 0, none⟩) m cap) m (xs.map (Value.int .i64))) (hroom : m + 1 ≤ cap)
    (h : ∀ w', w'.ownsRow base 3 1 (.slice (some ⟨g, 0, none⟩) (m + 1) cap) (m + 1) ((xs ++ [x]).map (Value.int .i64)) → Below base w0 w' → (∀ k, k < w0.heap.size → k ≠ g → w'.heap[k]? = w0.heap[k]?) →
      wpList Try.prog ops Q rest (a.put o.dst (.slice (some ⟨g, 0, none⟩) (m + 1) cap)) w') :
    wpList Try.prog ops Q (o :: rest) a (w0.alloc (.cells #[.int .i64 x] 3)) := by
  subst hg
  obtain ⟨i0, hi, hz0, hz1, hz2⟩ := info_parts intInfo
  have hlt := hown.lt g rfl
  refine wpList_append_fits _ hgd s y 25 ho base 3 i0 1 Try.underlying25 hi hz1 g m cap _ hs (hown.alloc _) ⟨w0.heap.size, 0, none⟩ 1 1 [.int .i64 x] hx rfl ?_ ?_ hroom ?_
  · intro j u hj
    match j, hj with
    | 0, hj => simp at hj; subst hj; simp [Addr.add]
  · intro u hu; simp at hu; subst hu; rfl
  · intro w1 hown' hgrow
    refine h w1 (by simpa using hown') ?_ ?_
    · exact ((Below.refl base w0).alloc (by omega) _).grown hgrow (by simp; omega) (fun k hk => by simp at hk; omega)
    · intro k hk hne
      rw [hgrow.block k (by simp; omega) (by simpa using hne)]
      exact Below.heap_alloc w0 _ k hk
end Go.Proofs.Ytokhpchnnilbaaa

namespace Go.Proofs.Ytokhpchnnilbaaa
open Go.RowKit
set_option maxRecDepth 4000
/-- The numbers below k of which f says yes. -/
def flt (f : Nat → Bool) (k : Nat) : List Int := ((List.range k).filter f).map (fun (j : Nat) => (j : Int))
theorem flt_yes (f : Nat → Bool) (k : Nat) (h : f k = true) : flt f (k + 1) = flt f k ++ [(k : Int)] := by
  simp [flt, List.range_succ, List.filter_append, h]
theorem flt_no (f : Nat → Bool) (k : Nat) (h : f k = false) : flt f (k + 1) = flt f k := by
  simp [flt, List.range_succ, List.filter_append, h]
theorem flt_len (f : Nat → Bool) (k : Nat) : (flt f k).length ≤ k := by
  simp only [flt, List.length_map]; exact Nat.le_trans (List.length_filter_le _ _) (by simp)
end Go.Proofs.Ytokhpchnnilbaaa

namespace Go.Proofs.Ytokhpchnnilbaaa
open Go.RowKit
set_option maxRecDepth 4000
/-- A region that draws its order, whose operations read what stood in the world ahead of it and whose callees only make new memory: one walk in the order of the text, at any world that the region comes to. -/
theorem wp_region_below {id : Nat} {Q : Exit → Act → World → Prop} {a : Act} {w : World} {l : List Oper} (hm : Try.prog.follows .mixedOrders = true) (hB : Region.lexB .any l.toArray = true)
    (h : ∀ (ι : Type) (_ : Nonempty ι) (f : ι → World), (∀ i, Below w.heap.size w (f i)) → (∀ i w', Below (f i).heap.size (f i) w' → ∃ j, w' = f j) →
      wpQuiet Try.prog l.toArray (fun w' => ∃ i, w' = f i) (fun a' => ∀ w', (∃ i, w' = f i) → Q .normal a' w') l a) : (Code.region id l.toArray true).wp Try.prog Q a w :=
  wp_region_quiet (C := fun w' => ∃ i : {w' : World // Below w.heap.size w w'}, w' = i.1) hm hB ⟨⟨w.drew, (Below.refl _ _).drew⟩, rfl⟩
    (by simpa using h {w' : World // Below w.heap.size w w'} ⟨⟨w, Below.refl _ _⟩⟩ (fun i => i.1) (fun i => i.2) (fun i w' hb => ⟨⟨w', i.2.trans (hb.mono i.2.size)⟩, rfl⟩))
end Go.Proofs.Ytokhpchnnilbaaa

namespace Go.Proofs.Ytokhpchnnilbaaa
open Go.RowKit
set_option maxRecDepth 4000
section
variable {P : Program} {ops : Array Oper} {S : World → Prop} {Q : Exit → Act → World → Prop}
/-- An order in which each operation either yields the same in every world that meets S, or is the one that may come up. -/
def mixB (ops : Array Oper) (sole : List Nat) : List Nat → Array Bool → Bool
  | [], L => decide (Region.ready .any ops L = [])
  | i :: rest, L => (if sole.contains i then decide (Region.ready .any ops L = [i]) else Region.free .any ops L i && (Region.ready .any ops L).contains i) && mixB ops sole rest (L.setIfInBounds i true)
/-- The walk in that order. -/
def wpMix (P : Program) (ops : Array Oper) (S : World → Prop) (Q : Exit → Act → World → Prop) (sole : List Nat) : List Nat → Act → World → Prop
  | [], a, w => Q .normal a w
  | i :: rest, a, w => if sole.contains i then wpOp P ops Q i (fun a' w' => S w' ∧ wpMix P ops S Q sole rest a' w') a w
    else ∃ o v, ops[i]? = some o ∧ YieldsIf P ops S o v a ∧ wpMix P ops S Q sole rest (a.put o.dst v) w
theorem mix_any (hs : Region.noSelect ops = true) (hQ : ∀ c (a : Act) d v w, Q (.panic c) (a.put d v) w → Q (.panic c) a w) (sole : List Nat) : ∀ (ord : List Nat) (L : Array Bool) (a : Act) (w : World), S w → mixB ops sole ord L = true → wpMix P ops S Q sole ord a w → wpAnyH P .any ops Q S ord.length L a w
  | [], L, a, w, _, hB, h => ⟨by simpa [mixB] using hB, h⟩
  | i :: rest, L, a, w, hS, hB, h => by
    simp only [mixB, Bool.and_eq_true] at hB
    obtain ⟨h1, h2⟩ := hB
    unfold wpMix at h
    by_cases hi : sole.contains i = true
    · rw [if_pos hi] at h1 h
      have hr : Region.ready .any ops L = [i] := by simpa using h1
      refine wpAnyH_all hr (by simp) (fun j hj => ?_)
      obtain rfl := List.mem_singleton.1 hj
      exact wpOp_mono (fun a' w' h' => ⟨h'.1, mix_any hs hQ sole rest _ a' w' h'.1 h2 h'.2⟩) h
    · rw [if_neg hi] at h1 h
      simp only [Bool.and_eq_true] at h1
      obtain ⟨o, v, ho, hy, hk⟩ := h
      exact wpAnyH_take ho hs h1.1 h1.2 (fun c a w => hQ c a _ _ w) hy hS (mix_any hs hQ sole rest _ _ w hS h2 hk)
theorem mix_done {sole : List Nat} {a : Act} {w : World} (h : Q .normal a w) : wpMix P ops S Q sole [] a w := h
theorem mix_take {sole rest : List Nat} {a : Act} {w : World} (i : Nat) (o : Oper) (v : Value) (hi : sole.contains i = false) (ho : ops[i]? = some o) (hw : Region.wanted o (yielded ops a.tmps) = true)
    (d : Option Tmp) (hd : o.dst = d) (hv : ∀ w, S w → (execOp a.eval o).run P w = .ok (.value v) w) (h : wpMix P ops S Q sole rest (a.put d v) w) : wpMix P ops S Q sole (i :: rest) a w := by
  subst hd
  unfold wpMix
  rw [hi]
  exact ⟨o, v, ho, .inl ⟨hw, hv⟩, h⟩
theorem mix_sole {sole rest : List Nat} {a : Act} {w : World} (i : Nat) (o : Oper) (hi : sole.contains i = true) (ho : ops[i]? = some o)
    (h : ∀ K' : Act → World → Prop, (∀ a w, S w ∧ wpMix P ops S Q sole rest a w → K' a w) → if Region.wanted o (yielded ops a.tmps) = true then Oper.wp P o a w K' Q else K' (a.put o.dst undef) w) : wpMix P ops S Q sole (i :: rest) a w := by
  unfold wpMix
  rw [if_pos hi]
  exact wpOp_step ho h
/-- A call of a Go function, the one operation that may come up. -/
theorem mix_call {sole rest : List Nat} {a : Act} {w : World} (i : Nat) (o : Oper) (hi : sole.contains i = true) (ho : ops[i]? = some o) (hw : Region.wanted o (yielded ops a.tmps) = true) (f : FuncId) (args : Array Value) (d : Option Tmp) (hd : o.dst = d)
    (hr : (execOp a.eval o).run P w = .ok (.enter f args) w) (h : Calls P f args w fun e w' => ∃ v, e = .returned v ∧ S w' ∧ wpMix P ops S Q sole rest (a.put d v) w') : wpMix P ops S Q sole (i :: rest) a w := by
  subst hd
  refine mix_sole i o hi ho (fun K' hK => ?_)
  rw [if_pos hw]
  unfold Oper.wp
  rw [hr]
  exact h.mono fun e w' ⟨v, he, hS, hm⟩ => by subst he; exact hK _ _ ⟨hS, hm⟩
end
theorem exec_row {o : Oper} {a : Act} {w : World} (ty : TypeId) (x : Operand) (ho : o.op = .load ty x) (g : Nat) (hx : a.eval x = .pointer (some ⟨g, 0, none⟩)) (cs : Array Value)
    (hl : (loadVar ty ⟨g, 0, none⟩).run Try.prog w = .ok (.agg cs) w) : (execOp a.eval o).run Try.prog w = .ok (.value (.agg cs)) w := by
  unfold execOp
  simp only [ho, hx, Instr.loadAt, Instr.sureAddr, Sem.run_bind, Sem.run_pure, Result.andThen_ok, hl]
theorem wp_region_mix {id : Nat} {Q : Exit → Act → World → Prop} {a : Act} {w : World} {l : List Oper} (S : World → Prop) (sole ord : List Nat) (hm : Try.prog.follows .mixedOrders = true) (hs : Region.noSelect l.toArray = true)
    (hQ : ∀ c (a : Act) d v w, Q (.panic c) (a.put d v) w → Q (.panic c) a w) (hB : mixB l.toArray sole ord (Array.replicate l.length false) = true) (hlen : ord.length = l.length)
    (hS : S w.drew) (h : wpMix Try.prog l.toArray S Q sole ord a w.drew) : (Code.region id l.toArray true).wp Try.prog Q a w := by
  refine wp_region_held (S := S) hm ?_
  have := mix_any hs hQ sole ord (Array.replicate l.length false) a w.drew hS hB h
  rw [hlen] at this
  simpa using this
end Go.Proofs.Ytokhpchnnilbaaa

namespace Go.Proofs.Ytokhpchnnilbaaa
open Go.RowKit
set_option maxRecDepth 4000
/-- All numbers lie between lo and hi. -/
def allB (lo hi : Int) (xs : List Int) : Bool := xs.all (fun x => decide (lo ≤ x ∧ x ≤ hi))
theorem allB_no (lo hi : Int) (xs : List Int) (k : Nat) (hk : k < xs.length) (h : ¬ (lo ≤ xs.getD k 0 ∧ xs.getD k 0 ≤ hi)) : allB lo hi xs = false := by
  rw [Bool.eq_false_iff]
  intro hh
  simp only [allB, List.all_eq_true, decide_eq_true_eq] at hh
  have := hh (xs.getD k 0) (by simp [List.getD, List.getElem?_eq_getElem hk])
  exact h this
theorem allB_yes (lo hi : Int) (xs : List Int) (h : ∀ k, k < xs.length → lo ≤ xs.getD k 0 ∧ xs.getD k 0 ≤ hi) : allB lo hi xs = true := by
  simp only [allB, List.all_eq_true, decide_eq_true_eq]
  intro x hx
  obtain ⟨k, hk, rfl⟩ := List.getElem_of_mem hx
  have := h k hk
  simpa [List.getD, List.getElem?_eq_getElem hk] using this
theorem allB_at {lo hi : Int} {xs : List Int} (h : allB lo hi xs = true) (k : Nat) (hk : k < xs.length) : lo ≤ xs.getD k 0 ∧ xs.getD k 0 ≤ hi := by
  simp only [allB, List.all_eq_true, decide_eq_true_eq] at h
  exact h _ (by simp [List.getD, List.getElem?_eq_getElem hk])
/-- The first k numbers copied, the rest 0. -/
def cpy (xs : List Int) (k : Nat) : List Int := xs.take k ++ List.replicate (xs.length - k) 0
theorem cpy_zero (xs : List Int) : cpy xs 0 = List.replicate xs.length 0 := by simp [cpy]
theorem cpy_all (xs : List Int) : cpy xs xs.length = xs := by simp [cpy]
theorem cpy_len (xs : List Int) (k : Nat) (h : k ≤ xs.length) : (cpy xs k).length = xs.length := by simp [cpy]; omega
theorem cpy_set (xs : List Int) (k : Nat) (h : k < xs.length) : ((cpy xs k).map (Value.int .i64)).set k (.int .i64 (xs.getD k 0)) = (cpy xs (k + 1)).map (Value.int .i64) := by
  apply List.ext_getElem?
  intro i
  simp only [cpy, List.map_append, List.getElem?_set, List.length_append, List.length_map, List.length_take, List.length_replicate, List.getElem?_append, List.getElem?_map, List.getElem?_take, List.getElem?_replicate, List.getD]
  by_cases h1 : k = i
  · subst h1
    simp [List.getElem?_eq_getElem h, show min k xs.length = k by omega, show k < min (k + 1) xs.length by omega]
    omega
  · by_cases h2 : i < k
    · simp [h1, h2, show min k xs.length = k by omega, show min (k + 1) xs.length = k + 1 by omega, show i < k + 1 by omega]
    · simp [h1, h2, show min k xs.length = k by omega, show min (k + 1) xs.length = k + 1 by omega, show ¬ i < k + 1 by omega]
      by_cases h3 : i - k < xs.length - k
      · simp [h3, show i - (k + 1) < xs.length - (k + 1) by omega]
      · simp [h3, show ¬ i - (k + 1) < xs.length - (k + 1) by omega]
theorem made_ints (n : Nat) : (madeCells (Value.int .i64 0).cells (n * 1)).toList = List.replicate n (Value.int .i64 0) := by
  rw [Nat.mul_one]; exact toList_madeCells_one _ _
theorem made_ints' (n : Nat) : (madeCells (Value.int .i64 0).cells n).toList = List.replicate n (Value.int .i64 0) := toList_madeCells_one _ _
set_option maxHeartbeats 400000 in
theorem toIntS_any (xs : List Int) (a : Option Addr) (b off n cap : Nat) (w : World) (hn : xs.length = n) (h : Rd w a b off xs) (hb0 : n = 0 ∨ b < w.heap.size) (hsz : n ≤ 1048576) :
    Calls Try.prog 25 #[.slice a n cap] w fun e w' => ∃ v, e = .returned v ∧ w'.ownsRow w.heap.size 3 1 v xs.length (xs.map (Value.int .i64)) ∧ Below w.heap.size w w' := by
  subst hn
  obtain ⟨hm, hc⟩ := h
  unfold maxLen at hm
  have HC := Lib.hid hc
  clear hc
  obtain ⟨i0, hi, hz0, hz1, hz2⟩ := info_parts intInfo
  go_enter Try.func25, Try.ntmps25
  go_wp2_with (at_make; refine wpList_make_full _ rfl _ _ 25 rfl w.heap.size 3 i0 (.int .i64 0) 1 Try.underlying25 hi hz0 hz1 _ _ _ _ xs.length rfl rfl ?hC ?hL ?hb2 ?hb3 ?hb4 ?_)
  case hC => rfl
  case hL => rfl
  case hb2 => rw [hz2]; omega
  case hb3 => unfold maxLen; omega
  case hb4 => exact Nat.le_refl _
  intro w1 ho1 hg1
  have ho1' : w1.ownsRow w.heap.size 3 1 (.slice (some ⟨w.heap.size, 0, none⟩) xs.length xs.length) xs.length ((cpy xs 0).map (Value.int .i64)) := by
    rw [cpy_zero, List.map_replicate]
    first | exact made_ints xs.length ▸ ho1 | exact made_ints' xs.length ▸ ho1
  have hB1 : Below w.heap.size w w1 := (Below.refl _ _).grown hg1 (Nat.le_refl _) (fun k hk => by cases hk)
  clear ho1 hg1
  go_wp2_with fail
  go_loopw [4] (fun v4 wr => ∃ k : Nat, k ≤ xs.length ∧ v4 = .int .i64 k ∧ wr.ownsRow w.heap.size 3 1 (.slice (some ⟨w.heap.size, 0, none⟩) xs.length xs.length) xs.length ((cpy xs k).map (Value.int .i64)) ∧ Below w.heap.size w wr) (fun v4 _ => xs.length - (intOf v4).toNat)
  case atStart => exact ⟨0, Nat.zero_le _, rfl, ho1', hB1⟩
  case round =>
    obtain ⟨k, hk, rfl, ho, hb⟩ := hrel
    by_cases hlt : k < xs.length
    · obtain ⟨ha, c⟩ := HC.out k hlt
      subst ha
      have hbl : b < w.heap.size := by
        rcases hb0 with h | h
        · omega
        · exact h
      have c1 : wr.cell? ⟨b, off + k, none⟩ = some (.int .i64 (xs.getD k 0)) := (hb.cell hbl).trans c
      have hf := ho.frozenAt k
      have hcc := ho.cellAt k (by omega)
      have hst := (ho.stored k (.int .i64 (xs.getD k 0))).1
      rw [cpy_set xs k hlt] at hst
      have HS := Lib.hid hst
      have hl : k < ((cpy xs k).map (Value.int .i64)).length := by rw [List.length_map, cpy_len _ _ (by omega)]; exact hlt
      rw [List.getElem?_eq_getElem hl] at hcc
      generalize ((cpy xs k).map (Value.int .i64))[k] = old at hcc
      clear hst ho hl c
      generalize xs.getD k 0 = x at *
      go_wp2
      go_roundw
      case rel => exact ⟨k + 1, by omega, by go_num, HS.out, hb.setCell (Nat.le_refl _) _⟩
      case measure => simp [intOf]; omega
    · have hk2 : xs.length = k := by omega
      have HK := Lib.hid hk2
      clear hk2
      go_wp2
      go_ret
      have e : cpy xs k = xs := by rw [← HK.out]; exact cpy_all xs
      rw [e] at ho
      exact ⟨_, rfl, ho, hb⟩
/-- A slice of numbers that came in: nil; or a row of cells, the first 'len' of them its elements. -/
def IsRow (w : World) (a : Option Addr) (len cap : Nat) (zs : List Int) : Prop :=
  (a = none ∧ len = 0 ∧ cap = 0 ∧ zs = []) ∨
  ∃ x, a = some x ∧ len ≤ cap ∧ cap ≤ maxLen ∧ zs.length = cap ∧ (∀ i, i < zs.length → w.cell? (x.add i) = some (.int .i64 (zs.getD i 0))) ∧ ∀ n ∈ zs, (Lit.int .i64 n).wf = true
theorem isRow_rd {w : World} {a : Option Addr} {len cap : Nat} {zs : List Int} (h : IsRow w a len cap zs) : (zs.take len).length = len ∧ ∃ b off, Rd w a b off (zs.take len) ∧ (len = 0 ∨ b < w.heap.size) := by
  rcases h with ⟨rfl, rfl, rfl, rfl⟩ | ⟨x, rfl, hl, hm, hz, hc, hw⟩
  · exact ⟨rfl, 0, 0, ⟨by simp [maxLen], fun j hj => by simp at hj⟩, .inl rfl⟩
  · have hlen : (zs.take len).length = len := by simp; omega
    refine ⟨hlen, x.block, x.off, ⟨by rw [hlen]; omega, fun j hj => ?_⟩, ?_⟩
    · rw [hlen] at hj
      have h1 := hc j (by omega)
      have hsp := World.cell?_spot (hc 0 (by omega))
      obtain ⟨b, off, spot⟩ := x
      have hspot : spot = none := by simpa [Addr.add] using hsp
      subst hspot
      refine ⟨rfl, ?_⟩
      rw [show (Addr.add ⟨b, off, none⟩ j : Addr) = ⟨b, off + j, none⟩ from Addr.add_lit ..] at h1
      rw [h1]
      simp [List.getD, hj]
    · by_cases h0 : len = 0
      · exact .inl h0
      · right
        have h1 := World.block_lt_of_cell? w _ (hc 0 (by omega))
        simpa [Addr.add] using h1
end Go.Proofs.Ytokhpchnnilbaaa

namespace Go.Proofs.Ytokhpchnnilbaaa
open Go.RowKit
set_option maxRecDepth 4000
set_option maxHeartbeats 400000 in
theorem markIntS_only (et : TypeId) (xs : List Int) (a : Option Addr) (base n cap : Nat) (k : Int) (w : World) (ho : w.ownsRow base et 1 (.slice a n cap) n (xs.map (Value.int .i64))) (hk0 : 0 ≤ k) (hk : k + xs.length ≤ 9223372036854775807) :
    Calls Try.prog 22 #[.slice a n cap, .int .i64 k] w fun e w' => e = .returned (.int .i64 (k + n)) ∧ w'.ownsRow base et 1 (.slice a n cap) n ((mkd k n xs).map (Value.int .i64)) ∧ Below base w w' ∧ ∀ k', (a = none ∨ ∃ b, a = some ⟨b, 0, none⟩ ∧ k' ≠ b) → w'.heap[k']? = w.heap[k']? := by
  obtain ⟨hn, a', cap', b, hv, ha, hrd⟩ := own_shape ho
  simp only [Value.slice.injEq] at hv
  obtain ⟨rfl, _, rfl⟩ := hv
  have hm := hrd.1
  unfold maxLen at hm
  rw [← hn] at hm hk
  have HR := Lib.hid hrd
  have HN := Lib.hid hn
  clear hrd hn
  go_enter Try.func22, Try.ntmps22
  go_wp2
  go_loopw [1, 5] (fun v1 v5 wr => ∃ j : Nat, j ≤ n ∧ v5 = .int .i64 j ∧ v1 = .int .i64 (k + j) ∧ wr.ownsRow base et 1 (.slice a n cap) n ((mkd k j xs).map (Value.int .i64)) ∧ Below base w wr ∧ ∀ k', (a = none ∨ ∃ b, a = some ⟨b, 0, none⟩ ∧ k' ≠ b) → wr.heap[k']? = w.heap[k']?) (fun _ v5 _ => n - (intOf v5).toNat)
  case atStart => exact ⟨0, Nat.zero_le _, rfl, by simp, by rw [mkd_zero]; exact ho, Below.refl _ _, fun _ _ => rfl⟩
  case round =>
    obtain ⟨j, hj, rfl, rfl, hw, hb, ho'⟩ := hrel
    have HO := Lib.hid ho'
    clear ho'
    by_cases hlt : j < n
    · have haa : a = some ⟨b, 0, none⟩ := by
        rcases ha with rfl | rfl
        · exact (HR.out.2 j (by have := HN.out; omega)).1
        · rfl
      subst haa
      have hf := hw.frozenAt j
      have hc := hw.cellAt j (by omega)
      have hst := hw.stored j (.int .i64 (k + j))
      rw [mkd_set k j xs (by have := HN.out; omega)] at hst
      have hbase : base ≤ b := (hw.lt b rfl).1
      have HS := Lib.hid hst
      have hl : j < ((mkd k j xs).map (Value.int .i64)).length := by rw [List.length_map, mkd_len _ _ _ (by have := HN.out; omega)]; have := HN.out; omega
      rw [List.getElem?_eq_getElem hl] at hc
      generalize ((mkd k j xs).map (Value.int .i64))[j] = old at hc
      clear hst hw hl ho
      go_wp2
      go_roundw
      case rel => exact ⟨j + 1, by omega, by go_num, by simp; omega, HS.out.1, hb.setCell hbase _, fun k' hk' => (Below.heap_setCell _ _ _ _ (by
          rcases hk' with h | ⟨b', h, hne⟩
          · cases h
          · cases h; exact hne)).trans (HO.out k' hk')⟩
      case measure => simp [intOf]; omega
    · have hj2 : j = n := by omega
      subst hj2
      go_wp2
      go_ret
      exact ⟨rfl, hw, hb, HO.out⟩
theorem own_keep {w w' : World} {base e size n : Nat} {v : Value} {xs : List Value} (h : w.ownsRow base e size v n xs) (hk : ∀ k, v.ownBlock = some k → w'.heap[k]? = w.heap[k]?) : w'.ownsRow base e size v n xs := by
  obtain ⟨h1, h2⟩ := h
  refine ⟨h1, ?_⟩
  rcases h2 with h2 | ⟨g, cap, cur, rfl, hg, hh, r⟩
  · exact .inl h2
  · exact .inr ⟨g, cap, cur, rfl, hg, by rw [hk g rfl]; exact hh, r⟩
end Go.Proofs.Ytokhpchnnilbaaa

namespace Go.Proofs.Ytokhpchnnilbaaa
open Go.RowKit
set_option maxRecDepth 4000
theorem own_base {w : World} {base base' e size n : Nat} {v : Value} {xs : List Value} (h : w.ownsRow base e size v n xs) (hg : base' ≤ base) : w.ownsRow base' e size v n xs := ⟨h.1, by
  rcases h.2 with h | ⟨g, cap, cur, hv, hg', r⟩
  · exact .inl h
  · exact .inr ⟨g, cap, cur, hv, by omega, r⟩⟩
/-- The first k of the indices whose number is 0. -/
def zer (l : List Int) (k : Nat) : List Int := ((List.range k).filter (fun j => l.getD j 0 == 0)).map (fun (j : Nat) => (j : Int))
theorem zer_yes (l : List Int) (k : Nat) (h : l.getD k 0 = 0) : zer l (k + 1) = zer l k ++ [(k : Int)] := by
  have h' : l[k]?.getD 0 = 0 := h
  simp [zer, List.range_succ, List.filter_append, h']
theorem zer_no (l : List Int) (k : Nat) (h : ¬ l.getD k 0 = 0) : zer l (k + 1) = zer l k := by
  have h' : ¬ l[k]?.getD 0 = 0 := h
  simp [zer, List.range_succ, List.filter_append, h']
theorem zer_len (l : List Int) (k : Nat) : (zer l k).length ≤ k := by
  simp only [zer, List.length_map]; exact Nat.le_trans (List.length_filter_le _ _) (by simp)
end Go.Proofs.Ytokhpchnnilbaaa

namespace Go.Proofs.Ytokhpchnnilbaaa
open Go.RowKit
set_option maxRecDepth 4000
/-- A list of lists that the call owns: the row of the slices, and each slice's own row; no two rows lie in one block. -/
def CellsV (w : World) (base : Nat) (v : Value) (cs : List (List Int)) : Prop :=
  ∃ vs : List Value, w.ownsRow base 25 1 v cs.length vs ∧ (∀ k, k < cs.length → w.ownsRow base 3 1 (vs.getD k undef) (cs.getD k []).length ((cs.getD k []).map (Value.int .i64))) ∧
    ∀ i j, i < j → j < cs.length → ∀ b, (vs.getD i undef).ownBlock = some b → (vs.getD j undef).ownBlock ≠ some b
theorem rowsInfo : (Try.prog.info? 25).map (fun i => (i.zero, i.size, i.bytes)) = some (some (.slice none 0 0), 1, 24) := by kernel_rfl
theorem cells_nil (w : World) (base : Nat) : CellsV w base (.slice none 0 0) [] := ⟨[], World.ownsRow_nil _ _ _ _, fun k hk => by simp at hk, fun i j _ hj => by simp at hj⟩
theorem cells_now {w w' : World} {base : Nat} {v : Value} {cs : List (List Int)} (h : CellsV w base v cs) (hb : Below w.heap.size w w') : CellsV w' base v cs := by
  obtain ⟨vs, h1, h2, h3⟩ := h
  exact ⟨vs, own_now h1 hb, fun k hk => own_now (h2 k hk) hb, h3⟩
theorem cells_base {w : World} {base base' : Nat} {v : Value} {cs : List (List Int)} (h : CellsV w base v cs) (hb : base' ≤ base) : CellsV w base' v cs := by
  obtain ⟨vs, h1, h2, h3⟩ := h
  have ob : ∀ {e size n : Nat} {v : Value} {xs : List Value}, w.ownsRow base e size v n xs → w.ownsRow base' e size v n xs := fun h => ⟨h.1, by
    rcases h.2 with h | ⟨g, cap, cur, hv, hg', r⟩
    · exact .inl h
    · exact .inr ⟨g, cap, cur, hv, by omega, r⟩⟩
  exact ⟨vs, ob h1, fun k hk => ob (h2 k hk), h3⟩
/-- Rows of numbers do not lie where the row of the slices lies. -/
theorem block_ne {w : World} {base base' n m : Nat} {v u : Value} {xs ys : List Value} (h : w.ownsRow base 25 1 v n xs) (h' : w.ownsRow base' 3 1 u m ys) : ∀ k, u.ownBlock = some k → some k ≠ v.ownBlock := by
  intro k hk he
  rcases h'.2 with ⟨rfl, _⟩ | ⟨g, cap, cur, rfl, _, hh, _⟩
  · simp [Value.ownBlock] at hk
  · simp [Value.ownBlock] at hk
    subst hk
    rcases h.2 with ⟨rfl, _⟩ | ⟨g', cap', cur', rfl, _, hh', _⟩
    · simp [Value.ownBlock] at he
    · simp [Value.ownBlock] at he
      subst he
      rw [hh] at hh'
      simp at hh'
/-- One row more at the end: the new slice is owned, and lies in the world ahead of the block of one cell in which it is handed over. -/
theorem append_row {ops : Array Oper} {rest : List Oper} {o : Oper} {a : Act} {Q : Exit → Act → World → Prop} (base g : Nat) (wi w0 : World) (v u : Value) (cs : List (List Int)) (c : List Int)
    (hgd : o.guard = none) (s y : Operand) (ho : o.op = .call { callee := .builtin .append, args := #[s, y], argTypes := #[56, 56] })
    (hs : a.eval s = v) (hx : a.eval y = .slice (some ⟨g, 0, none⟩) 1 1) (hg : g = w0.heap.size)
    (hci : CellsV wi base v cs) (hbw : Below wi.heap.size wi w0) (hui : w0.ownsRow wi.heap.size 3 1 u c.length (c.map (Value.int .i64))) (hu1 : u.oneCell' = true) (hbi : base ≤ wi.heap.size) (hlen : cs.length < 1000000000)
    (h : ∀ v' w', CellsV w' base v' (cs ++ [c]) → Below base w0 w' → wpList Try.prog ops Q rest (a.put o.dst v') w') :
    wpList Try.prog ops Q (o :: rest) a (w0.alloc (.cells #[u] 25)) := by
  subst hg
  have hc := cells_now hci hbw
  have hbase : base ≤ w0.heap.size := Nat.le_trans hbi hbw.size
  have hub : ∀ b, u.ownBlock = some b → wi.heap.size ≤ b := fun b hb => (hui.lt b hb).1
  have hu : w0.ownsRow base 3 1 u c.length (c.map (Value.int .i64)) := ⟨hui.1, by
    rcases hui.2 with h | ⟨g, cap, cur, hv, hg', r⟩
    · exact .inl h
    · exact .inr ⟨g, cap, cur, hv, by omega, r⟩⟩
  obtain ⟨vs, hi1, hi2, h3⟩ := hci
  have h4 : ∀ k, k < cs.length → ∀ b, (vs.getD k undef).ownBlock = some b → b < wi.heap.size := fun k hk b hb => own_lt (hi2 k hk) b hb
  have h1 := own_now hi1 hbw
  have h2 := fun k hk => own_now (hi2 k hk) hbw
  clear hc
  have hvl : vs.length = cs.length := by simpa using h1.1
  obtain ⟨i0, hi, hz0, hz1, hz2⟩ := info_parts rowsInfo
  refine wpList_append_own _ hgd s y 56 ho base 25 i0 (.slice none 0 0) 1 24 Try.underlying56 hi hz0 hz1 hz2 rfl (by decide) v cs.length _ hs (h1.alloc _) ⟨w0.heap.size, 0, none⟩ 1 1 [u] hx rfl ?_ ?_ ?_ ?_ ?_ ?_
  · intro j x hj
    match j, hj with
    | 0, hj =>
      simp at hj; subst hj
      simp only [Addr.add, if_pos]
      rw [World.cell?_alloc_at _ _ _ _ rfl]; rfl
  · intro x hx'; simp at hx'; subst hx'; exact hu1
  · unfold maxLen; omega
  · omega
  · simp; omega
  · intro v' w1 hown' hgrow _
    have keep : ∀ (x : Value) (n : Nat) (xs : List Value), w0.ownsRow base 3 1 x n xs → w1.ownsRow base 3 1 x n xs := fun x n xs hrow =>
      (hrow.alloc (.cells #[u] 25)).kept hgrow (by
        cases hn : x.ownBlock with
        | none => exact .inl rfl
        | some k => exact .inr (block_ne h1 hrow k hn))
    have eL : ∀ k, k < cs.length → (vs ++ [u]).getD k undef = vs.getD k undef := fun k hk2 => by simp [List.getD, List.getElem?_append, hvl, hk2]
    have eR : (vs ++ [u]).getD cs.length undef = u := by simp [List.getD, ← hvl]
    refine h v' w1 ⟨vs ++ [u], by simpa using hown', fun k hk => ?_, fun i j hij hj b hb1 => ?_⟩ ?_
    · by_cases hk2 : k < cs.length
      · have e1 : (vs ++ [u]).getD k undef = vs.getD k undef := by simp [List.getD, List.getElem?_append, hvl, hk2]
        have e2 : (cs ++ [c]).getD k [] = cs.getD k [] := by simp [List.getD, List.getElem?_append, hk2]
        rw [e1, e2]
        exact keep _ _ _ (h2 k hk2)
      · have hk3 : k = cs.length := by simp at hk; omega
        subst hk3
        have e1 : (vs ++ [u]).getD cs.length undef = u := by simp [List.getD, ← hvl]
        have e2 : (cs ++ [c]).getD cs.length [] = c := by simp [List.getD]
        rw [e1, e2]
        exact keep _ _ _ hu
    · simp only [List.length_append, List.length_cons, List.length_nil] at hj
      rw [eL i (by omega)] at hb1
      by_cases hk2 : j < cs.length
      · rw [eL j hk2]; exact h3 i j hij hk2 b hb1
      · rw [show j = cs.length by omega, eR]
        intro hb2
        have := h4 i (by omega) b hb1
        have := hub b hb2
        omega
    · exact ((Below.refl base w0).alloc hbase _).grown hgrow (by simp; omega) (fun k hk => (h1.lt k hk).1)
/-- One row, read off and written anew in its own block. -/
theorem cells_row {w : World} {base n cap : Nat} {a : Option Addr} {cs : List (List Int)} (h : CellsV w base (.slice a n cap) cs) :
    n = cs.length ∧ cs.length ≤ maxLen ∧ ∀ k, k < cs.length → ∃ g ra rc rb, a = some ⟨g, 0, none⟩ ∧ base ≤ g ∧ g < w.heap.size ∧ w.cell? ⟨g, k, none⟩ = some (.slice ra (cs.getD k []).length rc) ∧ (ra = none ∨ ra = some ⟨rb, 0, none⟩ ∧ rb < w.heap.size ∧ rb ≠ g) ∧ Rd w ra rb 0 (cs.getD k []) ∧
      w.ownsRow base 3 1 (.slice ra (cs.getD k []).length rc) (cs.getD k []).length ((cs.getD k []).map (Value.int .i64)) ∧
      ∀ (w' : World) (c' : List Int), w'.ownsRow base 3 1 (.slice ra (cs.getD k []).length rc) c'.length (c'.map (Value.int .i64)) →
        (∀ k', (ra = none ∨ ∃ b, ra = some ⟨b, 0, none⟩ ∧ k' ≠ b) → w'.heap[k']? = w.heap[k']?) → CellsV w' base (.slice a n cap) (cs.set k c') := by
  obtain ⟨vs, hrow, h3, h4⟩ := h
  obtain ⟨h1, h2⟩ := id hrow
  have hvl : vs.length = cs.length := by simpa using h1
  rcases h2 with ⟨hv, h0⟩ | ⟨g, cap', cur, hv, hg, hh, hc, hm, hs, ht⟩
  · simp only [Value.slice.injEq] at hv
    exact ⟨by omega, by unfold maxLen; omega, fun k hk => by omega⟩
  · simp only [Value.slice.injEq] at hv
    obtain ⟨rfl, rfl, rfl⟩ := hv
    refine ⟨rfl, Nat.le_trans hc hm, fun k hk => ?_⟩
    have hck : w.cell? ⟨g, k, none⟩ = some (vs.getD k undef) := by
      rw [cell_of_row w g k cur _ (0, 0) hh]
      have e : (cur.toList.take (cs.length * 1))[k]? = vs[k]? := by rw [ht]
      rw [List.getElem?_take, if_pos (by omega)] at e
      rw [← Array.getElem?_toList, e, List.getD_eq_getElem?_getD, List.getElem?_eq_getElem (by omega)]
      rfl
    obtain ⟨-, ra, rc, rb, hu, hx, hr⟩ := own_shape (h3 k hk)
    have hbn := block_ne hrow (h3 k hk)
    have hul := own_lt (h3 k hk)
    refine ⟨g, ra, rc, rb, rfl, hg, own_lt hrow g rfl, by rw [hck, hu], hx.imp_right fun h => ⟨h, hul rb (by rw [hu, h]; rfl), fun e => hbn rb (by rw [hu, h]; rfl) (by rw [e]; rfl)⟩, hr, by rw [← hu]; exact h3 k hk, fun w' c' hown hkeep => ?_⟩
    have hblk : ∀ k', (∀ b, (vs.getD k undef).ownBlock = some b → k' ≠ b) → w'.heap[k']? = w.heap[k']? := fun k' hne => hkeep k' (hx.imp_right fun h => ⟨rb, h, hne rb (by rw [hu, h]; rfl)⟩)
    refine ⟨vs, ?_, fun i hi => ?_, fun i j hij hj => ?_⟩
    · rw [List.length_set]
      exact own_keep hrow (fun k' hk' => hblk k' (fun b hb e => hbn b hb (by rw [hk', e])))
    · rw [List.length_set] at hi
      by_cases hik : i = k
      · subst hik
        rw [show (cs.set i c').getD i [] = c' by simp [List.getD, hi], hu]
        exact hown
      · rw [show (cs.set k c').getD i [] = cs.getD i [] by simp [List.getD, Ne.symm hik]]
        refine own_keep (h3 i hi) (fun k' hk' => hblk k' (fun b hb e => ?_))
        subst e
        rcases Nat.lt_or_gt_of_ne hik with hl | hl
        · exact h4 i k hl hk k' hk' hb
        · exact h4 k i hl hi k' hb hk'
    · rw [List.length_set] at hj
      exact h4 i j hij hj
end Go.Proofs.Ytokhpchnnilbaaa

namespace Go.Proofs.Ytokhpchnnilbaaa
open Go.RowKit
set_option maxRecDepth 4000
/-- How many numbers the first j rows have together. -/
def offs (ls : List Nat) : Nat → Nat
  | 0 => 0
  | j + 1 => offs ls j + ls.getD j 0
theorem offs_le (ls : List Nat) (h : ∀ i, ls.getD i 0 ≤ 1000) : ∀ j, offs ls j ≤ 1000 * j
  | 0 => Nat.le_refl _
  | j + 1 => by have := offs_le ls h j; have := h j; simp only [offs]; omega
/-- Rows of these lengths. -/
def Lens (ls : List Nat) (cs : List (List Int)) : Prop := cs.length = ls.length ∧ ∀ i, (cs.getD i []).length = ls.getD i 0
theorem lens_self (cs : List (List Int)) : Lens (cs.map List.length) cs := ⟨by simp, fun i => by
  simp only [List.getD, List.getElem?_map]
  cases cs[i]? <;> rfl⟩
/-- The first j rows hold the numbers from k on. -/
def Mkd (k : Int) (ls : List Nat) (j : Nat) (cs : List (List Int)) : Prop := Lens ls cs ∧ ∀ i, i < j → ∀ t : Nat, t < ls.getD i 0 → (cs.getD i []).getD t 0 = k + (offs ls i : Nat) + t
theorem mkd_row (k : Int) (ls : List Nat) (j : Nat) (cs : List (List Int)) (h : Mkd k ls j cs) (hj : j < ls.length) : Mkd k ls (j + 1) (cs.set j (mkd (k + (offs ls j : Nat)) (cs.getD j []).length (cs.getD j []))) := by
  obtain ⟨⟨h1, h2⟩, h3⟩ := h
  have hn : ∀ i, i ≠ j → (cs.set j (mkd (k + (offs ls j : Nat)) (cs.getD j []).length (cs.getD j []))).getD i [] = cs.getD i [] := fun i hi => by
    simp [List.getD, Ne.symm hi]
  have he : (cs.set j (mkd (k + (offs ls j : Nat)) (cs.getD j []).length (cs.getD j []))).getD j [] = mkd (k + (offs ls j : Nat)) (cs.getD j []).length (cs.getD j []) := by
    simp [List.getD, h1, hj]
  refine ⟨⟨by simp [h1], fun i => ?_⟩, fun i hi t ht => ?_⟩
  · by_cases e : i = j
    · subst e; rw [he, mkd_len _ _ _ (Nat.le_refl _)]; exact h2 i
    · rw [hn i e]; exact h2 i
  · by_cases e : i = j
    · subst e; rw [he]; exact mkd_all _ _ t (by rw [h2]; exact ht)
    · rw [hn i e]; exact h3 i (by omega) t ht
end Go.Proofs.Ytokhpchnnilbaaa

namespace Go.Proofs.Ytokhpchnnilbaaa
open Go.RowKit
set_option maxRecDepth 4000
/-- Pairs as the program keeps them: two numbers each. -/
def pfl (ps : List (Int × Int)) : List Value := ps.flatMap fun p => [.int .i64 p.1, .int .i64 p.2]
theorem pfl_len (ps : List (Int × Int)) : (pfl ps).length = ps.length * 2 := by
  induction ps with
  | nil => rfl
  | cons p ps ih => simp only [pfl, List.flatMap_cons, List.length_append, List.length_cons, List.length_nil] at ih ⊢; omega
theorem pfl_at (ps : List (Int × Int)) : ∀ k, k < ps.length → (pfl ps)[k * 2]? = some (.int .i64 (ps.getD k (0, 0)).1) ∧ (pfl ps)[k * 2 + 1]? = some (.int .i64 (ps.getD k (0, 0)).2) := by
  induction ps with
  | nil => intro k hk; exact absurd hk (by simp)
  | cons p ps ih =>
    intro k hk
    match k with
    | 0 => exact ⟨rfl, rfl⟩
    | k + 1 =>
      have e := ih k (by simpa using hk)
      rw [show (k + 1) * 2 = k * 2 + 2 by omega]
      exact e
/-- Pairs that can be read. -/
def PRd (w : World) (a : Option Addr) (b : Nat) (ps : List (Int × Int)) : Prop := ∀ k, k < ps.length → a = some ⟨b, 0, none⟩ ∧ b < w.heap.size ∧ w.cell? ⟨b, k * 2, none⟩ = some (.int .i64 (ps.getD k (0, 0)).1) ∧ w.cell? ⟨b, k * 2 + 1, none⟩ = some (.int .i64 (ps.getD k (0, 0)).2)
theorem PRd.later {w w' : World} {a : Option Addr} {b : Nat} {ps : List (Int × Int)} (h : PRd w a b ps) (hb : Below w.heap.size w w') : PRd w' a b ps := fun k hk =>
  ⟨(h k hk).1, Nat.lt_of_lt_of_le (h k hk).2.1 hb.size, (hb.cell (p := ⟨b, k * 2, none⟩) (h k hk).2.1).trans (h k hk).2.2.1, (hb.cell (p := ⟨b, k * 2 + 1, none⟩) (h k hk).2.1).trans (h k hk).2.2.2⟩
theorem Rd.later {w w' : World} {a : Option Addr} {b off len : Nat} {xs : List Int} (h : Rd w a b off xs) (hn : xs.length = len) (hb0 : len = 0 ∨ b < w.heap.size) (hb : Below w.heap.size w w') : Rd w' a b off xs :=
  ⟨h.1, fun j hj => ⟨(h.2 j hj).1, by
    rcases hb0 with h' | h'
    · rw [hn, h'] at hj; exact absurd hj (Nat.not_lt_zero _)
    · exact (hb.cell h').trans (h.2 j hj).2⟩⟩
end Go.Proofs.Ytokhpchnnilbaaa

namespace Go.Proofs.Ytokhpchnnilbaaa
open Go.RowKit
set_option maxRecDepth 4000
theorem made_rows (n : Nat) : (madeCells (Value.slice none 0 0).cells (n * 1)).toList = List.replicate n (Value.slice none 0 0) := by
  rw [Nat.mul_one]; exact toList_madeCells_one _ _
theorem made_rows' (n : Nat) : (madeCells (Value.slice none 0 0).cells n).toList = List.replicate n (Value.slice none 0 0) := toList_madeCells_one _ _
/-- Rows that were made and not yet laid. -/
theorem cells_made {w : World} {base n : Nat} {v : Value} (h : w.ownsRow base 25 1 v n (List.replicate n (.slice none 0 0))) : CellsV w base v (List.replicate n []) := by
  have e : ∀ k, k < n → (List.replicate n (Value.slice none 0 0)).getD k undef = .slice none 0 0 := fun k hk => by
    rw [List.getD_eq_getElem?_getD, List.getElem?_replicate, if_pos hk]; rfl
  refine ⟨List.replicate n (.slice none 0 0), by simpa using h, fun k hk => ?_, fun i j hij hj b hb => ?_⟩
  · rw [List.length_replicate] at hk
    rw [e k hk, show (List.replicate n ([] : List Int)).getD k [] = [] by rw [List.getD_eq_getElem?_getD, List.getElem?_replicate, if_pos hk]; rfl]
    exact World.ownsRow_nil _ _ _ _
  · rw [List.length_replicate] at hj
    rw [e i (by omega)] at hb
    simp [Value.ownBlock] at hb
/-- A new slice laid in a row's place. -/
theorem cells_put {w : World} {base n cap : Nat} {a : Option Addr} {cs : List (List Int)} (h : CellsV w base (.slice a n cap) cs) (k : Nat) (hk : k < cs.length) :
    ∃ g old, a = some ⟨g, 0, none⟩ ∧ base ≤ g ∧ g < w.heap.size ∧ w.cell? ⟨g, k, none⟩ = some old ∧ w.frozen? ⟨g, k, none⟩ = false ∧
      ∀ (w1 : World) (u : Value) (c : List Int), Below w.heap.size w w1 → w1.ownsRow w.heap.size 3 1 u c.length (c.map (Value.int .i64)) → CellsV (w1.setCell ⟨g, k, none⟩ u) base (.slice a n cap) (cs.set k c) := by
  obtain ⟨vs, hrow, h3, h4⟩ := h
  obtain ⟨h1, h2⟩ := id hrow
  have hvl : vs.length = cs.length := by simpa using h1
  rcases h2 with ⟨hv, h0⟩ | ⟨g, cap', cur, hv, hg, hh, hc, hm, hs, ht⟩
  · simp only [Value.slice.injEq] at hv
    omega
  · simp only [Value.slice.injEq] at hv
    obtain ⟨rfl, rfl, rfl⟩ := hv
    have hcl := hrow.cellAt k (by omega)
    have hkv : k < vs.length := by omega
    rw [List.getElem?_eq_getElem hkv] at hcl
    refine ⟨g, vs[k], rfl, hg, own_lt hrow g rfl, hcl, hrow.frozenAt k, fun w1 u c hb hu => ?_⟩
    have hgw : g < w.heap.size := own_lt hrow g rfl
    have hrow1 := own_now hrow hb
    have hst := (hrow1.stored k u).1
    have hne : ∀ k', k' ≠ g → (w1.setCell ⟨g, k, none⟩ u).heap[k']? = w1.heap[k']? := fun k' hk' => heap_setCell_other _ _ _ _ hk'
    have hge : ∀ i, i ≠ k → (vs.set k u).getD i undef = vs.getD i undef := fun i hi => by simp [List.getD, Ne.symm hi]
    have hgk : (vs.set k u).getD k undef = u := by simp [List.getD, hkv]
    have hce : ∀ i, i ≠ k → (cs.set k c).getD i [] = cs.getD i [] := fun i hi => by simp [List.getD, Ne.symm hi]
    have hck : (cs.set k c).getD k [] = c := by simp [List.getD, hk]
    have hub : ∀ b, u.ownBlock = some b → w.heap.size ≤ b := fun b hb' => (hu.lt b hb').1
    have hub2 : w1.ownsRow base 3 1 u c.length (c.map (Value.int .i64)) := ⟨hu.1, by
      rcases hu.2 with h | ⟨g', cap', cur', hv, hg', r⟩
      · exact .inl h
      · exact .inr ⟨g', cap', cur', hv, by omega, r⟩⟩
    refine ⟨vs.set k u, by rw [List.length_set]; exact hst, fun i hi => ?_, fun i j hij hj b hbi => ?_⟩
    · rw [List.length_set] at hi
      by_cases hik : i = k
      · subst hik
        rw [hgk, hck]
        exact own_keep hub2 (fun k' hk' => hne k' (by have := hub k' hk'; omega))
      · rw [hge i hik, hce i hik]
        refine own_keep (own_now (h3 i hi) hb) (fun k' hk' => hne k' (fun e => ?_))
        exact block_ne hrow (h3 i hi) k' hk' (by rw [e]; rfl)
    · rw [List.length_set] at hj
      by_cases hik : i = k
      · subst hik
        rw [hgk] at hbi
        rw [hge j (by omega)]
        intro hbj
        have := own_lt (h3 j hj) b hbj
        have := hub b hbi
        omega
      · rw [hge i hik] at hbi
        by_cases hjk : j = k
        · subst hjk
          rw [hgk]
          intro hbj
          have := own_lt (h3 i (by omega)) b hbi
          have := hub b hbj
          omega
        · rw [hge j hjk]
          exact h4 i j hij hj b hbi
def lst (p : Int × Int) : List Int := [p.1, p.2]
/-- The first k pairs as lists, and empty lists behind them. -/
def lsts (ps : List (Int × Int)) (k : Nat) : List (List Int) := (List.range ps.length).map fun i => if i < k then lst (ps.getD i (0, 0)) else []
theorem lsts_len (ps : List (Int × Int)) (k : Nat) : (lsts ps k).length = ps.length := by simp [lsts]
theorem lsts_at (ps : List (Int × Int)) (k i : Nat) : (lsts ps k)[i]? = if i < ps.length then some (if i < k then lst (ps.getD i (0, 0)) else []) else none := by
  simp only [lsts, List.getElem?_map]
  by_cases h : i < ps.length
  · rw [List.getElem?_range h, if_pos h]; rfl
  · rw [List.getElem?_eq_none (by simpa using h), if_neg h]; rfl
theorem lsts_zero (ps : List (Int × Int)) : lsts ps 0 = List.replicate ps.length [] := by
  apply List.ext_getElem?
  intro i
  rw [lsts_at, List.getElem?_replicate]
  simp
theorem lsts_all (ps : List (Int × Int)) : lsts ps ps.length = ps.map lst := by
  apply List.ext_getElem?
  intro i
  rw [lsts_at, List.getElem?_map]
  by_cases h : i < ps.length
  · rw [if_pos h, if_pos h, List.getD_eq_getElem?_getD, List.getElem?_eq_getElem h]; rfl
  · rw [if_neg h, List.getElem?_eq_none (by omega)]; rfl
theorem lsts_set (ps : List (Int × Int)) (k : Nat) (hk : k < ps.length) : (lsts ps k).set k (lst (ps.getD k (0, 0))) = lsts ps (k + 1) := by
  apply List.ext_getElem?
  intro i
  rw [List.getElem?_set, lsts_at, lsts_at, lsts_len]
  by_cases h1 : k = i
  · subst h1
    rw [if_pos rfl, if_pos hk, if_pos hk, if_pos (by omega)]
  · rw [if_neg h1]
    by_cases h2 : i < ps.length
    · rw [if_pos h2, if_pos h2]
      by_cases h3 : i < k
      · rw [if_pos h3, if_pos (by omega)]
      · rw [if_neg h3, if_neg (by omega)]
    · rw [if_neg h2, if_neg h2]
end Go.Proofs.Ytokhpchnnilbaaa
