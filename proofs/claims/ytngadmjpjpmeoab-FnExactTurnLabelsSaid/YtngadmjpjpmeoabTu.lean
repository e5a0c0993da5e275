import Derived.Test.YtngadmjpjpmeoabBrk
namespace Go.Proofs.Ytngadmjpjpmeoab
open Go.RowKit
def ti (n i : Nat) : Nat := Pr.T (n - (Pr.R i - Pr.C i)) + (n - Pr.R i)
def mi (n i : Nat) : Nat := Pr.T (n - (Pr.R i - Pr.C i)) + Pr.C i
theorem ti_lt : ∀ n, n < 9 → ∀ i, i < Pr.cnt n → ti n i < Pr.cnt n ∧ mi n i < Pr.cnt n := by decide +kernel
theorem R_le : ∀ n, n < 9 → ∀ i, i < Pr.cnt n → Pr.R i ≤ n := Pr.R_le_of_lt
set_option maxHeartbeats 400000 in
theorem labelOf_any (n : Nat) (xs : List Int) (x y z : Int) (q : Nat) (hL : labB n xs = true) (x0 : 0 ≤ x) (x1 : x ≤ n) (z0 : 0 ≤ z) (z1 : z ≤ 8) (hq : (((Pr.T ((n : Int) - x).toNat : Nat) : Int) + z) = (q : Int)) (hql : q < Pr.cnt n) (w : World) :
    Calls Try.prog 41 #[.agg (labL n xs).toArray, .agg #[.int .i64 x, .int .i64 y, .int .i64 z]] w fun e w' => e = .returned (.int .i64 (xs.getD q 0)) ∧ Below w.heap.size w w' := by
  obtain ⟨h1, h2, hl, hA⟩ := labB_yes hL
  have hc := (Pr.cnt_le n (by omega)).1
  have HC : Hid (∀ k, k < xs.length → (w.alloc (.cells (labL n xs).toArray 40)).cell? ⟨w.heap.size, 1 + k, none⟩ = some (.int .i64 (xs.getD k 0))) := fun k hk => by
    rw [cell_of_row _ _ _ _ _ (0, 0) (heap_alloc_new w _)]; exact labL_at n xs k hk
  have hm0 : (w.alloc (.cells (labL n xs).toArray 40)).cell? ⟨w.heap.size, 0, none⟩ = some (.int .i64 n) := by
    rw [cell_of_row _ _ _ _ _ (0, 0) (heap_alloc_new w _)]; exact labL_zero n xs
  have HQ := Lib.hid hq
  have hq45 : q < 45 := by omega
  have hqx : q < xs.length := by omega
  clear hA hL hq hl
  generalize hcs : (labL n xs).toArray = cs at *
  clear hcs
  have hm1 : ∀ o, ((w.alloc (.cells cs 40)).alloc o).cell? ⟨w.heap.size, 0, none⟩ = some (.int .i64 n) := fun o => by
    rw [World.cell?_alloc_past _ _ _ (by simp)]; exact hm0
  go_enter Try.func41, Try.ntmps41
  go_wp2_with fail
  refine (indexOf_any n x y z (by omega) x0 x1 z0 z1 _).mono ?_
  rintro e w1 ⟨rfl, hb1⟩
  rw [HQ.out]
  have hcx : w1.cell? ⟨w.heap.size, 1 + q, none⟩ = some (.int .i64 (xs.getD q 0)) := (hb1.cell (by simp; omega)).trans ((World.cell?_alloc_past _ _ _ (by simp)).trans (HC.out q hqx))
  have hqi : (q : Int) < 45 := by omega
  have hB1 := bnext (balloc (balloc (Below.refl w.heap.size w) (.cells cs 40)) (.cells #[.int .i64 x, .int .i64 y, .int .i64 z] 53)) hb1
  generalize hre : xs.getD q 0 = r at *
  have HRE := Lib.hid hre
  clear hm0 hm1 hb1 hre
  go_wp2_with fail
  go_ret
  rw [HRE.out]
  exact ⟨rfl, hB1⟩
theorem ti_eq (n i : Nat) (hr : Pr.R i ≤ n) (hc : Pr.C i ≤ Pr.R i) : (((Pr.T ((n : Int) - ((Pr.R i : Int) - (Pr.C i : Nat))).toNat : Nat) : Int) + ((n : Int) - (Pr.R i : Nat))) = (ti n i : Nat) := by
  rw [show ((n : Int) - ((Pr.R i : Int) - (Pr.C i : Nat))).toNat = n - (Pr.R i - Pr.C i) by omega]
  simp only [ti]; omega
theorem mi_eq (n i : Nat) (hr : Pr.R i ≤ n) (hc : Pr.C i ≤ Pr.R i) : (((Pr.T ((n : Int) - ((Pr.R i : Int) - (Pr.C i : Nat))).toNat : Nat) : Int) + (Pr.C i : Nat)) = (mi n i : Nat) := by
  rw [show ((n : Int) - ((Pr.R i : Int) - (Pr.C i : Nat))).toNat = n - (Pr.R i - Pr.C i) by omega]
  simp only [mi]; omega
def tuV (n : Nat) (xs : List Int) (i : Nat) : Int := (xs.getD (ti n i) 0 + 1) % 3
def miV (n : Nat) (xs : List Int) (i : Nat) : Int := if xs.getD (mi n i) 0 < 2 then 1 - xs.getD (mi n i) 0 else xs.getD (mi n i) 0
set_option maxHeartbeats 400000 in
theorem turnedAt_any (n i : Nat) (xs : List Int) (hL : labB n xs = true) (hi : i < Pr.cnt n) (w : World) :
    Calls Try.prog 29 #[.agg (labL n xs).toArray, .agg #[.int .i64 ((n : Int) - (Pr.R i : Nat)), .int .i64 ((Pr.R i : Int) - (Pr.C i : Nat)), .int .i64 (Pr.C i : Nat)]] w fun e w' => e = .returned (.int .i64 (tuV n xs i)) ∧ Below w.heap.size w w' := by
  obtain ⟨h1, h2, hl, hA⟩ := labB_yes hL
  have hcn := (Pr.cnt_le n (by omega)).1
  have hrc := Pr.RC_bd i (by omega)
  have hrn := R_le n (by omega) i hi
  have hti := (ti_lt n (by omega) i hi).1
  have hv := allB_at hA (ti n i) (by omega)
  have HE : Hid (tuV n xs i = (xs.getD (ti n i) 0 + 1) % 3) := rfl
  have HLO := Lib.hid (fun w' => labelOf_any n xs ((Pr.R i : Int) - (Pr.C i : Nat)) (Pr.C i : Nat) ((n : Int) - (Pr.R i : Nat)) (ti n i) hL (by omega) (by omega) (by omega) (by omega) (ti_eq n i hrn hrc.1) hti w')
  have hsz := labL_size n xs (by omega)
  have hg0 : ∀ o, ((w.alloc (.cells (labL n xs).toArray 40)).alloc o).heap[w.heap.size]? = some (.cells (labL n xs).toArray 40 (0, 0)) := fun o => (Below.heap_alloc _ _ _ (by simp)).trans (heap_alloc_new _ _)
  have HG := Lib.hid hg0
  clear hA hL hg0
  generalize xs.getD (ti n i) 0 = r at *
  generalize (labL n xs).toArray = cs at *
  generalize (Pr.R i : Int) - (Pr.C i : Nat) = bb at *
  go_enter Try.func29, Try.ntmps29
  go_wp2_with (first | ((with_reducible refine load_lab rfl _ rfl w.heap.size ?_ cs (HG.out _) hsz ?_); exact rfl))
  refine (HLO.out _).mono ?_
  rintro e w1 ⟨rfl, hb1⟩
  have hB1 := bnext (balloc (balloc (Below.refl w.heap.size w) (.cells cs 40)) (.cells #[.int .i64 ((n : Int) - (Pr.R i : Nat)), .int .i64 bb, .int .i64 (Pr.C i : Nat)] 53)) hb1
  go_wp2_with fail
  go_ret
  rw [HE.out]
  exact ⟨rfl, hB1⟩
set_option maxHeartbeats 400000 in
theorem mirroredAt_any (n i : Nat) (xs : List Int) (hL : labB n xs = true) (hi : i < Pr.cnt n) (w : World) :
    Calls Try.prog 30 #[.agg (labL n xs).toArray, .agg #[.int .i64 ((n : Int) - (Pr.R i : Nat)), .int .i64 ((Pr.R i : Int) - (Pr.C i : Nat)), .int .i64 (Pr.C i : Nat)]] w fun e w' => e = .returned (.int .i64 (miV n xs i)) ∧ Below w.heap.size w w' := by
  obtain ⟨h1, h2, hl, hA⟩ := labB_yes hL
  have hcn := (Pr.cnt_le n (by omega)).1
  have hrc := Pr.RC_bd i (by omega)
  have hrn := R_le n (by omega) i hi
  have hti := (ti_lt n (by omega) i hi).2
  have hv := allB_at hA (mi n i) (by omega)
  have HE : Hid (miV n xs i = if xs.getD (mi n i) 0 < 2 then 1 - xs.getD (mi n i) 0 else xs.getD (mi n i) 0) := rfl
  have HLO := Lib.hid (fun w' => labelOf_any n xs ((Pr.R i : Int) - (Pr.C i : Nat)) ((n : Int) - (Pr.R i : Nat)) (Pr.C i : Nat) (mi n i) hL (by omega) (by omega) (by omega) (by omega) (mi_eq n i hrn hrc.1) hti w')
  have hsz := labL_size n xs (by omega)
  have hg0 : ∀ o, ((w.alloc (.cells (labL n xs).toArray 40)).alloc o).heap[w.heap.size]? = some (.cells (labL n xs).toArray 40 (0, 0)) := fun o => (Below.heap_alloc _ _ _ (by simp)).trans (heap_alloc_new _ _)
  have HG := Lib.hid hg0
  clear hA hL hg0
  generalize xs.getD (mi n i) 0 = r at *
  generalize (labL n xs).toArray = cs at *
  generalize (Pr.R i : Int) - (Pr.C i : Nat) = bb at *
  by_cases hr2 : r = 2
  · have ht : (r == 2) = true := by simpa using hr2
    have HR2 := Lib.hid hr2
    clear hr2
    go_enter Try.func30, Try.ntmps30
    go_wp2_with (first | ((with_reducible refine load_lab rfl _ rfl w.heap.size ?_ cs (HG.out _) hsz ?_); exact rfl))
    refine (HLO.out _).mono ?_
    rintro e w1 ⟨rfl, hb1⟩
    have hB1 := bnext (balloc (balloc (Below.refl w.heap.size w) (.cells cs 40)) (.cells #[.int .i64 ((n : Int) - (Pr.R i : Nat)), .int .i64 bb, .int .i64 (Pr.C i : Nat)] 53)) hb1
    go_wp2_with fail
    go_ret
    rw [HE.out, HR2.out]
    exact ⟨rfl, hB1⟩
  · have ht : (r == 2) = false := by simpa using hr2
    have HR2 := Lib.hid hr2
    clear hr2
    go_enter Try.func30, Try.ntmps30
    go_wp2_with (first | ((with_reducible refine load_lab rfl _ rfl w.heap.size ?_ cs (HG.out _) hsz ?_); exact rfl))
    refine (HLO.out _).mono ?_
    rintro e w1 ⟨rfl, hb1⟩
    have hB1 := bnext (balloc (balloc (Below.refl w.heap.size w) (.cells cs 40)) (.cells #[.int .i64 ((n : Int) - (Pr.R i : Nat)), .int .i64 bb, .int .i64 (Pr.C i : Nat)] 53)) hb1
    go_wp2_with fail
    go_ret
    rw [HE.out, if_pos (by have := HR2.out; omega)]
    exact ⟨rfl, hB1⟩
set_option maxHeartbeats 800000 in
theorem lbyTurn_any (n : Nat) (xs : List Int) (hL : labB n xs = true) (w : World) :
    Calls Try.prog 28 #[.agg #[.int .i64 n], .func (.func 29) #[.agg (labL n xs).toArray] #[]] w fun e w' => ∃ v, e = .returned v ∧ w'.ownsRow w.heap.size 3 1 v ((List.range (Pr.cnt n)).map (tuV n xs)).length (((List.range (Pr.cnt n)).map (tuV n xs)).map (Value.int .i64)) ∧ Below w.heap.size w w' := by
  obtain ⟨h1, h2, hl, hA⟩ := labB_yes hL
  have hcn := (Pr.cnt_le n (by omega)).1
  obtain ⟨i0, hi, hz0, hz1, hz2⟩ := info_parts intInfo
  have hLl : ((List.range (Pr.cnt n)).map (tuV n xs)).length = Pr.cnt n := by simp
  have hLg : ∀ k, k < Pr.cnt n → ((List.range (Pr.cnt n)).map (tuV n xs)).getD k 0 = tuV n xs k := fun k hk => by simp [List.getD, hk]
  have HC := Lib.hid (fun k (hk : k < Pr.cnt n) w' => turnedAt_any n k xs hL hk w')
  generalize (List.range (Pr.cnt n)).map (tuV n xs) = L at *
  have HLL := Lib.hid hLl
  have HLG := Lib.hid hLg
  clear hLl hLg hA hL
  go_enter Try.func28, Try.ntmps28
  go_wp2_with fail
  refine (size_any n h2 _).mono ?_
  rintro e w1 ⟨rfl, hb1⟩
  have hm1 : w1.cell? ⟨w.heap.size, 0, none⟩ = some (.int .i64 n) := (hb1.cell (by simp)).trans (by go_cell)
  have hB1 := bnext (balloc (Below.refl w.heap.size w) (.cells #[.int .i64 n] 37)) hb1
  have hlt1 : w.heap.size < w1.heap.size := by have := hb1.size; simp at this; omega
  clear hb1
  go_wp2_with (at_make; refine wpList_make_full _ rfl _ _ 22 rfl w1.heap.size 3 i0 (.int .i64 0) 1 Try.underlying22 hi hz0 hz1 _ _ _ _ (Pr.cnt n) rfl rfl ?hC ?hL ?hb2 ?hb3 ?hb4 ?_)
  case hC => rfl
  case hL => rfl
  case hb2 => rw [hz2]; omega
  case hb3 => unfold maxLen; omega
  case hb4 => exact Nat.le_refl _
  intro w2 ho2 hg2
  have ho2' : w2.ownsRow w1.heap.size 3 1 (.slice (some ⟨w1.heap.size, 0, none⟩) (Pr.cnt n) (Pr.cnt n)) (Pr.cnt n) ((cpy L 0).map (Value.int .i64)) := by
    rw [cpy_zero, List.map_replicate, HLL.out]
    first | exact made_ints (Pr.cnt n) ▸ ho2 | exact made_ints' (Pr.cnt n) ▸ ho2
  have hB2 : Below w1.heap.size w1 w2 := (Below.refl _ _).grown hg2 (Nat.le_refl _) (fun k hk => by cases hk)
  have HM1 := Lib.hid hm1
  clear ho2 hg2 hm1
  go_wp2_with fail
  go_loopw [12] (fun v12 wr => ∃ k : Nat, k ≤ Pr.cnt n ∧ v12 = .int .i64 k ∧ wr.ownsRow w1.heap.size 3 1 (.slice (some ⟨w1.heap.size, 0, none⟩) (Pr.cnt n) (Pr.cnt n)) (Pr.cnt n) ((cpy L k).map (Value.int .i64)) ∧ Below w1.heap.size w1 wr) (fun v12 _ => Pr.cnt n - (intOf v12).toNat)
  case atStart => exact ⟨0, Nat.zero_le _, rfl, ho2', hB2⟩
  case round =>
    obtain ⟨k, hk, rfl, ho, hb⟩ := hrel
    by_cases hlt : k < Pr.cnt n
    · have hm : wr.cell? ⟨w.heap.size, 0, none⟩ = some (.int .i64 n) := (hb.cell hlt1).trans HM1.out
      have hk45 : k < 45 := by omega
      go_wp2_with fail
      refine (spotAt_any n k h1 h2 hk45 _).mono ?_
      rintro e w3 ⟨rfl, hb3⟩
      go_wp2_with fail
      refine (HC.out k hlt _).mono ?_
      rintro e w4 ⟨rfl, hb4⟩
      have hB4 := bnext hb3 hb4
      have ho4 := own_now ho hB4
      have hb4' := hb.trans (hB4.mono hb.size)
      have hf := ho4.frozenAt k
      have hcc := ho4.cellAt k (by omega)
      have hst := (ho4.stored k (.int .i64 (L.getD k 0))).1
      rw [cpy_set L k (by rw [HLL.out]; exact hlt)] at hst
      have HS := Lib.hid hst
      have hl' : k < ((cpy L k).map (Value.int .i64)).length := by rw [List.length_map, cpy_len _ _ (by rw [HLL.out]; omega), HLL.out]; exact hlt
      rw [List.getElem?_eq_getElem hl'] at hcc
      generalize ((cpy L k).map (Value.int .i64))[k] = old at hcc
      rw [← HLG.out k hlt]
      clear hst ho4 hl' ho hb hb3 hb4 hm
      generalize L.getD k 0 = x at *
      go_wp2_with fail
      go_roundw
      case rel => exact ⟨k + 1, by omega, by go_num, HS.out, hb4'.setCell (Nat.le_refl _) _⟩
      case measure => simp [intOf]; omega
    · have hk2 : k = Pr.cnt n := by omega
      have e : cpy L k = L := by rw [hk2, ← HLL.out]; exact cpy_all L
      rw [e] at ho
      clear e hk2
      go_wp2_with fail
      go_ret
      rw [HLL.out]
      exact ⟨_, rfl, own_base ho (Nat.le_of_lt hlt1), bnext hB1 hb⟩
set_option maxHeartbeats 800000 in
theorem lbyMirror_any (n : Nat) (xs : List Int) (hL : labB n xs = true) (w : World) :
    Calls Try.prog 28 #[.agg #[.int .i64 n], .func (.func 30) #[.agg (labL n xs).toArray] #[]] w fun e w' => ∃ v, e = .returned v ∧ w'.ownsRow w.heap.size 3 1 v ((List.range (Pr.cnt n)).map (miV n xs)).length (((List.range (Pr.cnt n)).map (miV n xs)).map (Value.int .i64)) ∧ Below w.heap.size w w' := by
  obtain ⟨h1, h2, hl, hA⟩ := labB_yes hL
  have hcn := (Pr.cnt_le n (by omega)).1
  obtain ⟨i0, hi, hz0, hz1, hz2⟩ := info_parts intInfo
  have hLl : ((List.range (Pr.cnt n)).map (miV n xs)).length = Pr.cnt n := by simp
  have hLg : ∀ k, k < Pr.cnt n → ((List.range (Pr.cnt n)).map (miV n xs)).getD k 0 = miV n xs k := fun k hk => by simp [List.getD, hk]
  have HC := Lib.hid (fun k (hk : k < Pr.cnt n) w' => mirroredAt_any n k xs hL hk w')
  generalize (List.range (Pr.cnt n)).map (miV n xs) = L at *
  have HLL := Lib.hid hLl
  have HLG := Lib.hid hLg
  clear hLl hLg hA hL
  go_enter Try.func28, Try.ntmps28
  go_wp2_with fail
  refine (size_any n h2 _).mono ?_
  rintro e w1 ⟨rfl, hb1⟩
  have hm1 : w1.cell? ⟨w.heap.size, 0, none⟩ = some (.int .i64 n) := (hb1.cell (by simp)).trans (by go_cell)
  have hB1 := bnext (balloc (Below.refl w.heap.size w) (.cells #[.int .i64 n] 37)) hb1
  have hlt1 : w.heap.size < w1.heap.size := by have := hb1.size; simp at this; omega
  clear hb1
  go_wp2_with (at_make; refine wpList_make_full _ rfl _ _ 22 rfl w1.heap.size 3 i0 (.int .i64 0) 1 Try.underlying22 hi hz0 hz1 _ _ _ _ (Pr.cnt n) rfl rfl ?hC ?hL ?hb2 ?hb3 ?hb4 ?_)
  case hC => rfl
  case hL => rfl
  case hb2 => rw [hz2]; omega
  case hb3 => unfold maxLen; omega
  case hb4 => exact Nat.le_refl _
  intro w2 ho2 hg2
  have ho2' : w2.ownsRow w1.heap.size 3 1 (.slice (some ⟨w1.heap.size, 0, none⟩) (Pr.cnt n) (Pr.cnt n)) (Pr.cnt n) ((cpy L 0).map (Value.int .i64)) := by
    rw [cpy_zero, List.map_replicate, HLL.out]
    first | exact made_ints (Pr.cnt n) ▸ ho2 | exact made_ints' (Pr.cnt n) ▸ ho2
  have hB2 : Below w1.heap.size w1 w2 := (Below.refl _ _).grown hg2 (Nat.le_refl _) (fun k hk => by cases hk)
  have HM1 := Lib.hid hm1
  clear ho2 hg2 hm1
  go_wp2_with fail
  go_loopw [12] (fun v12 wr => ∃ k : Nat, k ≤ Pr.cnt n ∧ v12 = .int .i64 k ∧ wr.ownsRow w1.heap.size 3 1 (.slice (some ⟨w1.heap.size, 0, none⟩) (Pr.cnt n) (Pr.cnt n)) (Pr.cnt n) ((cpy L k).map (Value.int .i64)) ∧ Below w1.heap.size w1 wr) (fun v12 _ => Pr.cnt n - (intOf v12).toNat)
  case atStart => exact ⟨0, Nat.zero_le _, rfl, ho2', hB2⟩
  case round =>
    obtain ⟨k, hk, rfl, ho, hb⟩ := hrel
    by_cases hlt : k < Pr.cnt n
    · have hm : wr.cell? ⟨w.heap.size, 0, none⟩ = some (.int .i64 n) := (hb.cell hlt1).trans HM1.out
      have hk45 : k < 45 := by omega
      go_wp2_with fail
      refine (spotAt_any n k h1 h2 hk45 _).mono ?_
      rintro e w3 ⟨rfl, hb3⟩
      go_wp2_with fail
      refine (HC.out k hlt _).mono ?_
      rintro e w4 ⟨rfl, hb4⟩
      have hB4 := bnext hb3 hb4
      have ho4 := own_now ho hB4
      have hb4' := hb.trans (hB4.mono hb.size)
      have hf := ho4.frozenAt k
      have hcc := ho4.cellAt k (by omega)
      have hst := (ho4.stored k (.int .i64 (L.getD k 0))).1
      rw [cpy_set L k (by rw [HLL.out]; exact hlt)] at hst
      have HS := Lib.hid hst
      have hl' : k < ((cpy L k).map (Value.int .i64)).length := by rw [List.length_map, cpy_len _ _ (by rw [HLL.out]; omega), HLL.out]; exact hlt
      rw [List.getElem?_eq_getElem hl'] at hcc
      generalize ((cpy L k).map (Value.int .i64))[k] = old at hcc
      rw [← HLG.out k hlt]
      clear hst ho4 hl' ho hb hb3 hb4 hm
      generalize L.getD k 0 = x at *
      go_wp2_with fail
      go_roundw
      case rel => exact ⟨k + 1, by omega, by go_num, HS.out, hb4'.setCell (Nat.le_refl _) _⟩
      case measure => simp [intOf]; omega
    · have hk2 : k = Pr.cnt n := by omega
      have e : cpy L k = L := by rw [hk2, ← HLL.out]; exact cpy_all L
      rw [e] at ho
      clear e hk2
      go_wp2_with fail
      go_ret
      rw [HLL.out]
      exact ⟨_, rfl, own_base ho (Nat.le_of_lt hlt1), bnext hB1 hb⟩
end Go.Proofs.Ytngadmjpjpmeoab
