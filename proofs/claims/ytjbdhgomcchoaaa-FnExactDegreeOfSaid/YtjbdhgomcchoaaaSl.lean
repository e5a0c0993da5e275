import Derived.Test.YtjbdhgomcchoaaaRows
import Derived.WalkKit
import Derived.WalkSpells
import Derived.WalkLawsBesides
import Derived.Handy
import Derived.Lib.Hide
import Derived.Deep.QuietTactic
import Derived.BigQuiet
namespace Go.Proofs.Ytjbdhgomcchoaaa
open Go.RowKit
/-- The slice at 'a' holds the numbers xs. -/
def Rd (w : World) (a : Option Addr) (b off : Nat) (xs : List Int) : Prop :=
  xs.length ≤ maxLen ∧ ∀ j, j < xs.length → a = some ⟨b, off, none⟩ ∧ w.cell? ⟨b, off + j, none⟩ = some (.int .i64 (xs.getD j 0))
/-- What a call owns: its slice, and the block where it lies. -/
theorem own_shape {w : World} {base n : Nat} {et : TypeId} {v : Value} {xs : List Int} (h : w.ownsRow base et 1 v n (xs.map (Value.int .i64))) :
    n = xs.length ∧ ∃ a cap b, v = .slice a n cap ∧ (a = none ∨ a = some ⟨b, 0, none⟩) ∧ Rd w a b 0 xs := by
  obtain ⟨h1, h2⟩ := h
  have hn : n = xs.length := by simpa using h1.symm
  refine ⟨hn, ?_⟩
  rcases h2 with ⟨rfl, h0⟩ | ⟨g, cap, cur, rfl, hg, hh, hc, hm, hs, ht⟩
  · subst h0
    have : xs = [] := List.eq_nil_of_length_eq_zero hn.symm
    subst this
    exact ⟨none, 0, 0, rfl, .inl rfl, by simp [maxLen], fun j hj => by simp at hj⟩
  · refine ⟨_, cap, g, rfl, .inr rfl, by rw [← hn]; exact Nat.le_trans hc hm, fun j hj => ⟨rfl, ?_⟩⟩
    rw [cell_of_row w g (0 + j) cur _ (0, 0) hh]
    have e : (cur.toList.take (n * 1))[j]? = (xs.map (Value.int .i64))[j]? := by rw [ht]
    rw [List.getElem?_take, if_pos (by omega)] at e
    simp only [Nat.zero_add]
    rw [← Array.getElem?_toList, e]
    simp [List.getD, hj]
theorem own_later {w w' : World} {base e size n B : Nat} {v : Value} {xs : List Value} (h : w.ownsRow base e size v n xs) (hB : ∀ k, v.ownBlock = some k → k < B) (hb : Below B w w') : w'.ownsRow base e size v n xs := by
  obtain ⟨h1, h2⟩ := h
  refine ⟨h1, ?_⟩
  rcases h2 with h2 | ⟨g, cap, cur, rfl, hg, hh, r⟩
  · exact .inl h2
  · exact .inr ⟨g, cap, cur, rfl, hg, by rw [hb.block g (hB g rfl)]; exact hh, r⟩
theorem own_lt {w : World} {base e size n : Nat} {v : Value} {xs : List Value} (h : w.ownsRow base e size v n xs) : ∀ k, v.ownBlock = some k → k < w.heap.size := fun k hk => (h.lt k hk).2
theorem own_now {w w' : World} {base e size n : Nat} {v : Value} {xs : List Value} (h : w.ownsRow base e size v n xs) (hb : Below w.heap.size w w') : w'.ownsRow base e size v n xs := own_later h (own_lt h) hb
/-- Nothing but a count of draws has moved. -/
def Same (w w' : World) : Prop := ∀ B, Below B w w'
theorem Same.refl (w : World) : Same w w := fun B => Below.refl B w
theorem Same.drew {w w' : World} (h : Same w w') : Same w w'.drew := fun B => (h B).drew
theorem Same.drewN {w w' : World} (n : Nat) (h : Same w w') : Same w (w'.drewN n) := fun B => (h B).trans ⟨rfl, rfl, rfl, Nat.le_refl _, fun _ _ => rfl⟩
theorem Same.trans {a b c : World} (h : Same a b) (k : Same b c) : Same a c := fun B => (h B).trans (k B)
theorem Same.cell {w w' : World} (h : Same w w') (p : Addr) : w'.cell? p = w.cell? p := (h (p.block + 1)).cell (Nat.lt_succ_self _)
theorem Same.frozen {w w' : World} (h : Same w w') (p : Addr) : w'.frozen? p = w.frozen? p := (h (p.block + 1)).frozen (Nat.lt_succ_self _)
theorem Rd.same {w w' : World} {a : Option Addr} {b off : Nat} {xs : List Int} (h : Rd w a b off xs) (hs : Same w w') : Rd w' a b off xs := ⟨h.1, fun j hj => ⟨(h.2 j hj).1, (hs.cell _).trans (h.2 j hj).2⟩⟩
theorem Rd.below {w w' : World} {a : Option Addr} {b off B : Nat} {xs : List Int} (h : Rd w a b off xs) (hs : Below B w w') (hB : a = none ∨ b < B) : Rd w' a b off xs :=
  ⟨h.1, fun j hj => ⟨(h.2 j hj).1, by
    rcases hB with hB | hB
    · have := (h.2 j hj).1; rw [hB] at this; cases this
    · exact (hs.cell hB).trans (h.2 j hj).2⟩⟩
set_option maxHeartbeats 400000 in
theorem eqIntS_same (xs : List Int) (a a' : Option Addr) (b off b' off' n n' cap cap' : Nat) (w : World) (hn : xs.length = n) (hn' : xs.length = n') (h : Rd w a b off xs) (h' : Rd w a' b' off' xs) :
    Calls Try.prog 22 #[.slice a n cap, .slice a' n' cap'] w fun e w' => e = .returned (.bool true) ∧ Same w w' := by
  subst hn hn'
  obtain ⟨hm, hc⟩ := h
  obtain ⟨_, hc'⟩ := h'
  unfold maxLen at hm
  have hne : ((xs.length : Int) != (xs.length : Int)) = false := by simp
  have HC := Lib.hid hc
  have HC' := Lib.hid hc'
  clear hc hc'
  go_enter Try.func22, Try.ntmps22
  go_wp2
  go_loopw [5] (fun v5 wr => ∃ k : Nat, k ≤ xs.length ∧ v5 = .int .i64 k ∧ Same w wr) (fun v5 _ => xs.length - (intOf v5).toNat)
  case atStart => exact ⟨0, Nat.zero_le _, rfl, Same.refl _⟩
  case round =>
    obtain ⟨k, hk, rfl, hs⟩ := hrel
    by_cases hlt : k < xs.length
    · obtain ⟨ha, c⟩ := HC.out k hlt
      obtain ⟨ha', c'⟩ := HC'.out k hlt
      subst ha ha'
      have c1 : wr.cell? ⟨b, off + k, none⟩ = some (.int .i64 (xs.getD k 0)) := (hs.cell _).trans c
      have c2 : wr.cell? ⟨b', off' + k, none⟩ = some (.int .i64 (xs.getD k 0)) := (hs.cell _).trans c'
      have hi : (k : Int) < (xs.length : Int) := by omega
      have hne2 : (xs.getD k 0 != xs.getD k 0) = false := by simp
      clear c c'
      go_wp2
      go_quiet (fail)
      go_wp2
      go_roundw
      case rel => exact ⟨k + 1, by omega, by go_num, hs.drewN _⟩
      case measure => simp [intOf]; omega
    · go_wp2
      go_ret
      exact ⟨rfl, hs⟩
set_option maxHeartbeats 400000 in
theorem heldIntS_yes (xs : List Int) (a : Option Addr) (b off n cap : Nat) (k : Int) (w : World) (hn : xs.length = n) (h : Rd w a b off xs) (hk0 : 0 ≤ k) (hk : k + xs.length ≤ 9223372036854775807) (hx : ∀ j : Nat, j < xs.length → xs.getD j 0 = k + j) :
    Calls Try.prog 24 #[.slice a n cap, .int .i64 k] w fun e w' => e = .returned (.int .i64 (k + n)) ∧ w = w' := by
  subst hn
  obtain ⟨hm, hc⟩ := h
  unfold maxLen at hm
  have HC := Lib.hid hc
  have HX := Lib.hid hx
  clear hc hx
  go_enter Try.func24, Try.ntmps24
  go_wp2
  go_loop [1, 5] (fun v1 v5 => ∃ j : Nat, j ≤ xs.length ∧ v5 = .int .i64 j ∧ v1 = .int .i64 (k + j)) (fun _ v5 => xs.length - (intOf v5).toNat)
  case atStart => exact ⟨0, Nat.zero_le _, rfl, by simp⟩
  case round =>
    obtain ⟨j, hj, rfl, rfl⟩ := hrel
    by_cases hlt : j < xs.length
    · obtain ⟨ha, c⟩ := HC.out j hlt
      have x := HX.out j hlt
      rw [x] at c
      subst ha
      have hne2 : ((k + (j : Int)) != (k + (j : Int))) = false := by simp
      clear x
      go_wp2
      go_round
      case rel => exact ⟨j + 1, by omega, by go_num, by simp; omega⟩
      case measure => simp [intOf]; omega
    · have hj2 : j = xs.length := by omega
      subst hj2
      go_wp2
      go_ret
      exact ⟨rfl, rfl⟩
/-- What a row holds when its first j cells are marked. -/
def mkd (k : Int) (j : Nat) (xs : List Int) : List Int := (List.range j).map (fun (i : Nat) => k + (i : Int)) ++ xs.drop j
theorem mkd_zero (k : Int) (xs : List Int) : mkd k 0 xs = xs := by simp [mkd]
theorem mkd_len (k : Int) (j : Nat) (xs : List Int) (h : j ≤ xs.length) : (mkd k j xs).length = xs.length := by simp [mkd]; omega
theorem mkd_set (k : Int) (j : Nat) (xs : List Int) (h : j < xs.length) : ((mkd k j xs).map (Value.int .i64)).set j (.int .i64 (k + j)) = (mkd k (j + 1) xs).map (Value.int .i64) := by
  apply List.ext_getElem?
  intro i
  simp only [mkd, List.map_append, List.getElem?_set, List.length_append, List.length_map, List.length_range, List.length_drop, List.getElem?_append, List.getElem?_map, List.getElem?_drop]
  by_cases h1 : j = i
  · subst h1
    simp; omega
  · by_cases h2 : i < j
    · simp [h1, h2, show i < j + 1 by omega]
    · simp [h1, h2, show ¬ i < j + 1 by omega, show j + (i - j) = i by omega, show j + 1 + (i - (j + 1)) = i by omega]
theorem mkd_all (k : Int) (xs : List Int) (j : Nat) (h : j < xs.length) : (mkd k xs.length xs).getD j 0 = k + j := by
  simp [mkd, List.getD, h]
set_option maxHeartbeats 400000 in
theorem markIntS_any (et : TypeId) (xs : List Int) (a : Option Addr) (base n cap : Nat) (k : Int) (w : World) (ho : w.ownsRow base et 1 (.slice a n cap) n (xs.map (Value.int .i64))) (hk0 : 0 ≤ k) (hk : k + xs.length ≤ 9223372036854775807) :
    Calls Try.prog 23 #[.slice a n cap, .int .i64 k] w fun e w' => e = .returned (.int .i64 (k + n)) ∧ w'.ownsRow base et 1 (.slice a n cap) n ((mkd k n xs).map (Value.int .i64)) ∧ Below base w w' := by
  obtain ⟨hn, a', cap', b, hv, ha, hrd⟩ := own_shape ho
  simp only [Value.slice.injEq] at hv
  obtain ⟨rfl, _, rfl⟩ := hv
  have hm := hrd.1
  unfold maxLen at hm
  rw [← hn] at hm hk
  have HR := Lib.hid hrd
  have HN := Lib.hid hn
  clear hrd hn
  go_enter Try.func23, Try.ntmps23
  go_wp2
  go_loopw [1, 5] (fun v1 v5 wr => ∃ j : Nat, j ≤ n ∧ v5 = .int .i64 j ∧ v1 = .int .i64 (k + j) ∧ wr.ownsRow base et 1 (.slice a n cap) n ((mkd k j xs).map (Value.int .i64)) ∧ Below base w wr) (fun _ v5 _ => n - (intOf v5).toNat)
  case atStart => exact ⟨0, Nat.zero_le _, rfl, by simp, by rw [mkd_zero]; exact ho, Below.refl _ _⟩
  case round =>
    obtain ⟨j, hj, rfl, rfl, hw, hb⟩ := hrel
    by_cases hlt : j < n
    · have haa : a = some ⟨b, 0, none⟩ := by
        rcases ha with rfl | rfl
        · exact (HR.out.2 j (by have := HN.out; omega)).1
        · rfl
      subst haa
      have hf := hw.frozenAt j
      have hc := hw.cellAt j (by omega)
      have hst := hw.stored j (.int .i64 (k + j))
      rw [mkd_set k j xs (by have := HN.out; omega)] at hst
      have hbase : base ≤ b := (hw.lt b rfl).1
      have HS := Lib.hid hst
      have hl : j < ((mkd k j xs).map (Value.int .i64)).length := by rw [List.length_map, mkd_len _ _ _ (by have := HN.out; omega)]; have := HN.out; omega
      rw [List.getElem?_eq_getElem hl] at hc
      generalize ((mkd k j xs).map (Value.int .i64))[j] = old at hc
      clear hst hw hl ho
      go_wp2
      go_roundw
      case rel => exact ⟨j + 1, by omega, by go_num, by simp; omega, HS.out.1, hb.setCell hbase _⟩
      case measure => simp [intOf]; omega
    · have hj2 : j = n := by omega
      subst hj2
      go_wp2
      go_ret
      exact ⟨rfl, hw, hb⟩
/-- What a function does that answers a list of numbers, and whether it succeeds. -/
def Gives (w : World) (et : TypeId) (xs : List Int) (ok : Bool) (e : Ending) (w' : World) : Prop :=
  ∃ v, e = .returned (.tuple #[v, .bool ok]) ∧ w'.ownsRow w.heap.size et 1 v xs.length (xs.map (Value.int .i64)) ∧ Below w.heap.size w w'
theorem below_same {B : Nat} {a b c : World} (h : Below B a b) (k : Same b c) : Below B a c := h.trans (k B)
theorem own_same {w w' : World} {base e size n : Nat} {v : Value} {xs : List Value} (h : w.ownsRow base e size v n xs) (k : Same w w') : w'.ownsRow base e size v n xs := own_now h (k _)
theorem gives_none {w w' : World} {et : TypeId} (hb : Below w.heap.size w w') : Gives w et [] false (.returned (.tuple #[.slice none 0 0, .bool false])) w' := ⟨_, rfl, World.ownsRow_nil _ _ _ _, hb⟩
/-- A block that the call made, whole. -/
theorem own_block {w : World} {base g cap : Nat} {et : TypeId} {xs : List Int} {cur : Array Value} (hg : base ≤ g) (hh : w.heap[g]? = some (.cells cur et (0, 0))) (hc : cur.toList = xs.map (Value.int .i64)) (hcap : cap = xs.length) (hm : cap ≤ maxLen) :
    w.ownsRow base et 1 (.slice (some ⟨g, 0, none⟩) xs.length cap) xs.length (xs.map (Value.int .i64)) := by
  refine ⟨by simp, .inr ⟨g, cap, cur, rfl, hg, hh, by omega, hm, ?_, ?_⟩⟩
  · rw [← Array.length_toList, hc]; simp [hcap]
  · rw [hc, List.take_of_length_le (by simp)]
end Go.Proofs.Ytjbdhgomcchoaaa
