import Derived.Test.YtjbdhgomcchoaaaBase
import Derived.Test.YtjbdhgomcchoaaaAp
namespace Go.Proofs.Ytjbdhgomcchoaaa
open Go.RowKit
/-- All numbers lie between lo and hi. -/
def allB (lo hi : Int) (xs : List Int) : Bool := xs.all (fun x => decide (lo ≤ x ∧ x ≤ hi))
theorem allB_no (lo hi : Int) (xs : List Int) (k : Nat) (hk : k < xs.length) (h : ¬ (lo ≤ xs.getD k 0 ∧ xs.getD k 0 ≤ hi)) : allB lo hi xs = false := by
  rw [Bool.eq_false_iff]
  intro hh
  simp only [allB, List.all_eq_true, decide_eq_true_eq] at hh
  have := hh (xs.getD k 0) (by simp [List.getD, List.getElem?_eq_getElem hk])
  exact h this
theorem allB_yes (lo hi : Int) (xs : List Int) (h : ∀ k, k < xs.length → lo ≤ xs.getD k 0 ∧ xs.getD k 0 ≤ hi) : allB lo hi xs = true := by
  simp only [allB, List.all_eq_true, decide_eq_true_eq]
  intro x hx
  obtain ⟨k, hk, rfl⟩ := List.getElem_of_mem hx
  have := h k hk
  simpa [List.getD, List.getElem?_eq_getElem hk] using this
theorem allB_at {lo hi : Int} {xs : List Int} (h : allB lo hi xs = true) (k : Nat) (hk : k < xs.length) : lo ≤ xs.getD k 0 ∧ xs.getD k 0 ≤ hi := by
  simp only [allB, List.all_eq_true, decide_eq_true_eq] at h
  exact h _ (by simp [List.getD, List.getElem?_eq_getElem hk])
set_option maxHeartbeats 400000 in
theorem l1All_any (xs : List Int) (a : Option Addr) (b off n cap : Nat) (lo hi : Int) (w : World) (hn : xs.length = n) (h : Rd w a b off xs) :
    Calls Try.prog 89 #[.slice a n cap, .int .i64 lo, .int .i64 hi] w fun e w' => e = .returned (.bool (allB lo hi xs)) ∧ w = w' := by
  subst hn
  obtain ⟨hm, hc⟩ := h
  unfold maxLen at hm
  have HC := Lib.hid hc
  clear hc
  go_enter Try.func89, Try.ntmps89
  go_wp2
  go_loop [11] (fun v11 => ∃ k : Nat, k ≤ xs.length ∧ v11 = .int .i64 k ∧ ∀ j, j < k → lo ≤ xs.getD j 0 ∧ xs.getD j 0 ≤ hi) (fun v11 => xs.length - (intOf v11).toNat)
  case atStart => exact ⟨0, Nat.zero_le _, rfl, by omega⟩
  case round =>
    obtain ⟨k, hk, rfl, hall⟩ := hrel
    have HA := Lib.hid hall
    clear hall
    by_cases hlt : k < xs.length
    · obtain ⟨ha, c⟩ := HC.out k hlt
      subst ha
      by_cases h1 : lo ≤ xs.getD k 0
      · by_cases h2 : xs.getD k 0 ≤ hi
        · generalize hx : xs.getD k 0 = x at *
          have HX := Lib.hid hx
          clear hx
          have hd1 : decide (lo ≤ x) = true := by simpa using h1
          have hd2 : decide (x ≤ hi) = true := by simpa using h2
          go_wp2
          go_round
          case rel =>
            refine ⟨k + 1, by omega, by go_num, fun j hj => ?_⟩
            by_cases hjk : j < k
            · exact HA.out j hjk
            · obtain rfl : j = k := by omega
              rw [HX.out]; exact ⟨h1, h2⟩
          case measure => simp [intOf]; omega
        · have hF := Lib.hid (allB_no lo hi xs k hlt (fun h => h2 h.2))
          generalize xs.getD k 0 = x at *
          have hd1 : decide (lo ≤ x) = true := by simpa using h1
          have hd2 : decide (x ≤ hi) = false := by simpa using h2
          go_wp2
          go_ret
          exact ⟨ret_bool hF.out.symm, rfl⟩
      · have hF := Lib.hid (allB_no lo hi xs k hlt (fun h => h1 h.1))
        generalize xs.getD k 0 = x at *
        have hd1 : decide (lo ≤ x) = false := by simpa using h1
        go_wp2
        go_ret
        exact ⟨ret_bool hF.out.symm, rfl⟩
    · have hk2 : xs.length = k := by omega
      have hT := Lib.hid (allB_yes lo hi xs (by rw [hk2]; exact HA.out))
      clear hk2
      go_wp2
      go_ret
      exact ⟨ret_bool hT.out.symm, rfl⟩
/-- The first k numbers copied, the rest 0. -/
def cpy (xs : List Int) (k : Nat) : List Int := xs.take k ++ List.replicate (xs.length - k) 0
theorem cpy_zero (xs : List Int) : cpy xs 0 = List.replicate xs.length 0 := by simp [cpy]
theorem cpy_all (xs : List Int) : cpy xs xs.length = xs := by simp [cpy]
theorem cpy_len (xs : List Int) (k : Nat) (h : k ≤ xs.length) : (cpy xs k).length = xs.length := by simp [cpy]; omega
theorem cpy_set (xs : List Int) (k : Nat) (h : k < xs.length) : ((cpy xs k).map (Value.int .i64)).set k (.int .i64 (xs.getD k 0)) = (cpy xs (k + 1)).map (Value.int .i64) := by
  apply List.ext_getElem?
  intro i
  simp only [cpy, List.map_append, List.getElem?_set, List.length_append, List.length_map, List.length_take, List.length_replicate, List.getElem?_append, List.getElem?_map, List.getElem?_take, List.getElem?_replicate, List.getD]
  by_cases h1 : k = i
  · subst h1
    simp [List.getElem?_eq_getElem h, show min k xs.length = k by omega, show k < min (k + 1) xs.length by omega]
    omega
  · by_cases h2 : i < k
    · simp [h1, h2, show min k xs.length = k by omega, show min (k + 1) xs.length = k + 1 by omega, show i < k + 1 by omega]
    · simp [h1, h2, show min k xs.length = k by omega, show min (k + 1) xs.length = k + 1 by omega, show ¬ i < k + 1 by omega]
      by_cases h3 : i - k < xs.length - k
      · simp [h3, show i - (k + 1) < xs.length - (k + 1) by omega]
      · simp [h3, show ¬ i - (k + 1) < xs.length - (k + 1) by omega]
theorem made_ints (n : Nat) : (madeCells (Value.int .i64 0).cells (n * 1)).toList = List.replicate n (Value.int .i64 0) := by
  rw [Nat.mul_one]; exact toList_madeCells_one _ _
theorem made_ints' (n : Nat) : (madeCells (Value.int .i64 0).cells n).toList = List.replicate n (Value.int .i64 0) := toList_madeCells_one _ _
set_option maxHeartbeats 400000 in
theorem toIntS_any (xs : List Int) (a : Option Addr) (b off n cap : Nat) (w : World) (hn : xs.length = n) (h : Rd w a b off xs) (hb0 : n = 0 ∨ b < w.heap.size) (hsz : n ≤ 1048576) :
    Calls Try.prog 28 #[.slice a n cap] w fun e w' => ∃ v, e = .returned v ∧ w'.ownsRow w.heap.size 3 1 v xs.length (xs.map (Value.int .i64)) ∧ Below w.heap.size w w' := by
  subst hn
  obtain ⟨hm, hc⟩ := h
  unfold maxLen at hm
  have HC := Lib.hid hc
  clear hc
  obtain ⟨i0, hi, hz0, hz1, hz2⟩ := info_parts intInfo
  go_enter Try.func28, Try.ntmps28
  go_wp2_with (at_make; refine wpList_make_full _ rfl _ _ 28 rfl w.heap.size 3 i0 (.int .i64 0) 1 Try.underlying28 hi hz0 hz1 _ _ _ _ xs.length rfl rfl ?hC ?hL ?hb2 ?hb3 ?hb4 ?_)
  case hC => rfl
  case hL => rfl
  case hb2 => rw [hz2]; omega
  case hb3 => unfold maxLen; omega
  case hb4 => exact Nat.le_refl _
  intro w1 ho1 hg1
  have ho1' : w1.ownsRow w.heap.size 3 1 (.slice (some ⟨w.heap.size, 0, none⟩) xs.length xs.length) xs.length ((cpy xs 0).map (Value.int .i64)) := by
    rw [cpy_zero, List.map_replicate]
    first | exact made_ints xs.length ▸ ho1 | exact made_ints' xs.length ▸ ho1
  have hB1 : Below w.heap.size w w1 := (Below.refl _ _).grown hg1 (Nat.le_refl _) (fun k hk => by cases hk)
  clear ho1 hg1
  go_wp2_with fail
  go_loopw [4] (fun v4 wr => ∃ k : Nat, k ≤ xs.length ∧ v4 = .int .i64 k ∧ wr.ownsRow w.heap.size 3 1 (.slice (some ⟨w.heap.size, 0, none⟩) xs.length xs.length) xs.length ((cpy xs k).map (Value.int .i64)) ∧ Below w.heap.size w wr) (fun v4 _ => xs.length - (intOf v4).toNat)
  case atStart => exact ⟨0, Nat.zero_le _, rfl, ho1', hB1⟩
  case round =>
    obtain ⟨k, hk, rfl, ho, hb⟩ := hrel
    by_cases hlt : k < xs.length
    · obtain ⟨ha, c⟩ := HC.out k hlt
      subst ha
      have hbl : b < w.heap.size := by
        rcases hb0 with h | h
        · omega
        · exact h
      have c1 : wr.cell? ⟨b, off + k, none⟩ = some (.int .i64 (xs.getD k 0)) := (hb.cell hbl).trans c
      have hf := ho.frozenAt k
      have hcc := ho.cellAt k (by omega)
      have hst := (ho.stored k (.int .i64 (xs.getD k 0))).1
      rw [cpy_set xs k hlt] at hst
      have HS := Lib.hid hst
      have hl : k < ((cpy xs k).map (Value.int .i64)).length := by rw [List.length_map, cpy_len _ _ (by omega)]; exact hlt
      rw [List.getElem?_eq_getElem hl] at hcc
      generalize ((cpy xs k).map (Value.int .i64))[k] = old at hcc
      clear hst ho hl c
      generalize xs.getD k 0 = x at *
      go_wp2
      go_roundw
      case rel => exact ⟨k + 1, by omega, by go_num, HS.out, hb.setCell (Nat.le_refl _) _⟩
      case measure => simp [intOf]; omega
    · have hk2 : xs.length = k := by omega
      have HK := Lib.hid hk2
      clear hk2
      go_wp2
      go_ret
      have e : cpy xs k = xs := by rw [← HK.out]; exact cpy_all xs
      rw [e] at ho
      exact ⟨_, rfl, ho, hb⟩
/-- A slice of numbers that came in: nil; or a row of cells, the first 'len' of them its elements. -/
def IsRow (w : World) (a : Option Addr) (len cap : Nat) (zs : List Int) : Prop :=
  (a = none ∧ len = 0 ∧ cap = 0 ∧ zs = []) ∨
  ∃ x, a = some x ∧ len ≤ cap ∧ cap ≤ maxLen ∧ zs.length = cap ∧ (∀ i, i < zs.length → w.cell? (x.add i) = some (.int .i64 (zs.getD i 0))) ∧ ∀ n ∈ zs, (Lit.int .i64 n).wf = true
theorem isRow_rd {w : World} {a : Option Addr} {len cap : Nat} {zs : List Int} (h : IsRow w a len cap zs) : (zs.take len).length = len ∧ ∃ b off, Rd w a b off (zs.take len) ∧ (len = 0 ∨ b < w.heap.size) := by
  rcases h with ⟨rfl, rfl, rfl, rfl⟩ | ⟨x, rfl, hl, hm, hz, hc, hw⟩
  · exact ⟨rfl, 0, 0, ⟨by simp [maxLen], fun j hj => by simp at hj⟩, .inl rfl⟩
  · have hlen : (zs.take len).length = len := by simp; omega
    refine ⟨hlen, x.block, x.off, ⟨by rw [hlen]; omega, fun j hj => ?_⟩, ?_⟩
    · rw [hlen] at hj
      have h1 := hc j (by omega)
      have hsp := World.cell?_spot (hc 0 (by omega))
      obtain ⟨b, off, spot⟩ := x
      have hspot : spot = none := by simpa [Addr.add] using hsp
      subst hspot
      refine ⟨rfl, ?_⟩
      rw [show (Addr.add ⟨b, off, none⟩ j : Addr) = ⟨b, off + j, none⟩ from Addr.add_lit ..] at h1
      rw [h1]
      simp [List.getD, hj]
    · by_cases h0 : len = 0
      · exact .inl h0
      · right
        have h1 := World.block_lt_of_cell? w _ (hc 0 (by omega))
        simpa [Addr.add] using h1
end Go.Proofs.Ytjbdhgomcchoaaa
