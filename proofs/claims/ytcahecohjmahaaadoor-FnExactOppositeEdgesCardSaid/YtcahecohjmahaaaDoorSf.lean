import Derived.Test.YtcahecohjmahaaaDoorSe
import Derived.Test.YtcahecohjmahaaaDoorZa
namespace Go.Proofs.YtcahecohjmahaaaDoor
open Go.RowKit
set_option maxRecDepth 4000
theorem bq1z (n k : Nat) (h : k < 2 * n) : bq n k = oi n ((k : Int) - n) (-(n : Int)) := by have := bq1 n k h; rwa [Nat.zero_add] at this
theorem own_lo {w : World} {base base' e size n : Nat} {v : Value} {xs : List Value} (h : w.ownsRow base e size v n xs) (hb : base' ≤ base) : w.ownsRow base' e size v n xs := ⟨h.1, by
  rcases h.2 with h | ⟨g, cap, cur, hv, hg', r⟩
  · exact .inl h
  · exact .inr ⟨g, cap, cur, hv, by omega, r⟩⟩
/-- A block of two numbers. -/
def Duo (w : World) (A : Nat) (x y : Int) : Prop := w.heap[A]? = some (.cells #[.int .i64 x, .int .i64 y] 93 (0, 0))
theorem Duo.c0 {w : World} {A : Nat} {x y : Int} (h : Duo w A x y) : w.cell? ⟨A, 0, none⟩ = some (.int .i64 x) := by rw [cell_of_row w A 0 _ _ (0, 0) h]; rfl
theorem Duo.c1 {w : World} {A : Nat} {x y : Int} (h : Duo w A x y) : w.cell? ⟨A, 1, none⟩ = some (.int .i64 y) := by rw [cell_of_row w A 1 _ _ (0, 0) h]; rfl
theorem Duo.lt {w : World} {A : Nat} {x y : Int} (h : Duo w A x y) : A < w.heap.size := (Array.getElem?_eq_some_iff.1 h).1
theorem Duo.of {w w' : World} {A : Nat} {x y : Int} (h : Duo w A x y) (hb : w'.heap[A]? = w.heap[A]?) : Duo w' A x y := hb.trans h
set_option maxHeartbeats 2000000 in
theorem sqBorder_any (n : Nat) (h1 : 1 ≤ n) (h2 : n ≤ 4) (w : World) :
    Calls Tryd.prog 135 #[.agg #[.int .i64 n]] w fun e w' => ∃ v, e = .returned v ∧ w'.ownsRow w.heap.size 3 1 v (bol n (8 * n)).length ((bol n (8 * n)).map (Value.int .i64)) ∧ Below w.heap.size w w' := by
  obtain ⟨i0, hi, hz0, hz1, hz2⟩ := info_parts intInfo
  go_enter Tryd.func135, Tryd.ntmps135
  go_wp2_with (at_make; refine wpList_make_own _ rfl _ _ 22 rfl w.heap.size 3 i0 (.int .i64 0) 1 Tryd.underlying22 hi hz0 hz1 _ _ _ (8 * n) rfl rfl ?hC ?hb2 ?hb3 ?hb4 ?_)
  case hC => simp
  case hb2 => rw [hz2]; omega
  case hb3 => unfold maxLen; omega
  case hb4 => simp
  intro w1 ho1 hg1
  have hm1 : w1.cell? ⟨w.heap.size, 0, none⟩ = some (.int .i64 n) := hg1.cell (v := .int .i64 n) (by go_cell) (by simp)
  have hB1 : Below w.heap.size w w1 := (Below.alloc (Below.refl _ _) (Nat.le_refl _) _).grown hg1 (by simp) (fun k hk => by cases hk)
  have hlt1 : w.heap.size + 1 < w1.heap.size := by
    have := own_lt ho1 _ rfl
    simpa using this
  have ho1' : w1.ownsRow w.heap.size 3 1 (.slice (some ⟨w.heap.size + 1, 0, none⟩) 0 (8 * n)) 0 ((bol n 0).map (Value.int .i64)) := ho1
  clear ho1
  go_wp2_with fail
  go_quiet (fail)
  generalize hwd : w1.drewN _ = w2
  have hs2 : Same w1 w2 := by rw [← hwd]; exact (Same.refl _).drewN _
  clear hwd
  have ho2 := own_same ho1' hs2
  have hm2 := (hs2.cell ⟨w.heap.size, 0, none⟩).trans hm1
  have hB2 := below_same hB1 hs2
  have hlt2 : w.heap.size + 1 < w2.heap.size := own_lt ho2 _ rfl
  clear ho1' hm1 hB1 hs2 hlt1 hg1
  go_wp2_with fail
  go_loopw [3, 4, 5, 23] (fun v3 v4 v5 v23 wr => ∃ (k : Int) (m : Nat) (x y : Int), k ≤ 4 ∧ v23 = .int .i64 k ∧ v3 = .slice (some ⟨w.heap.size + 1, 0, none⟩) m (8 * n) ∧ v4 = .int .i64 x ∧ v5 = .int .i64 y ∧
      ((k = 0 ∧ m = 0 ∧ x = -(n : Int) ∧ y = -(n : Int)) ∨ (k = 1 ∧ m = 2 * n ∧ x = n ∧ y = -(n : Int)) ∨ (k = 2 ∧ m = 4 * n ∧ x = n ∧ y = n) ∨ (k = 3 ∧ m = 6 * n ∧ x = -(n : Int) ∧ y = n) ∨ (k = 4 ∧ m = 8 * n)) ∧ wr.cell? ⟨w.heap.size, 0, none⟩ = some (.int .i64 n) ∧
      wr.ownsRow w.heap.size 3 1 (.slice (some ⟨w.heap.size + 1, 0, none⟩) m (8 * n)) m ((bol n m).map (Value.int .i64)) ∧ Below w.heap.size w wr) (fun _ _ _ v23 _ => 4 - (intOf v23).toNat)
  case atStart => exact ⟨0, 0, _, _, by omega, rfl, rfl, rfl, rfl, .inl ⟨rfl, rfl, rfl, rfl⟩, hm2, ho2, hB2⟩
  case round =>
    obtain ⟨k, m, x, y, hk, rfl, rfl, rfl, rfl, hc, hm, ho, hb⟩ := hrel
    obtain ⟨wo, rfl⟩ : ∃ wo : World, wo = wr := ⟨_, rfl⟩
    have hzo := hb.size
    have hlo : w.heap.size + 1 < wo.heap.size := own_lt ho _ rfl
    have hlo' : w.heap.size < wo.heap.size := by omega
    clear hm2 ho2 hB2 hlt2
    rcases hc with ⟨rfl, rfl, rfl, rfl⟩ | ⟨rfl, rfl, rfl, rfl⟩ | ⟨rfl, rfl, rfl, rfl⟩ | ⟨rfl, rfl, rfl, rfl⟩ | ⟨rfl, rfl⟩
    · have ix : ∀ w : World, (Instr.index 174 (.agg #[.int .i64 1, .int .i64 0, .int .i64 0, .int .i64 1, .int .i64 (-1), .int .i64 0, .int .i64 0, .int .i64 (-1)]) (.int .i64 0)).run Tryd.prog w = .ok (.agg #[.int .i64 1, .int .i64 0]) w := fun _ => by kernel_rfl
      have hduo := heap_alloc_new wo (.cells #[.int .i64 1, .int .i64 0] 93)
      go_wp2_with fail
      go_loopw [3, 4, 5, 29] (fun v3 v4 v5 v29 wr => ∃ j : Nat, j ≤ 2 * n ∧ v29 = .int .i64 j ∧ v3 = .slice (some ⟨w.heap.size + 1, 0, none⟩) j (8 * n) ∧ v4 = .int .i64 ((j : Int) - n) ∧ v5 = .int .i64 (-(n : Int)) ∧ Duo wr wo.heap.size 1 0 ∧ wr.cell? ⟨w.heap.size, 0, none⟩ = some (.int .i64 n) ∧
          wr.ownsRow w.heap.size 3 1 (.slice (some ⟨w.heap.size + 1, 0, none⟩) j (8 * n)) j ((bol n j).map (Value.int .i64)) ∧ Below w.heap.size w wr) (fun _ _ _ v29 _ => 2 * n - (intOf v29).toNat)
      case atStart => exact ⟨0, Nat.zero_le _, rfl, by go_num, by go_num, by go_num, hduo, (World.cell?_alloc_past _ _ _ (by show w.heap.size < wo.heap.size; omega)).trans hm, ho.alloc _, balloc hb _⟩
      case round =>
        clear hduo hm ho hb
        obtain ⟨j, hj, rfl, rfl, rfl, rfl, hduo, hm, ho, hb⟩ := hrel
        have hz := hb.size
        by_cases hlt : j < 2 * n
        · have HE := Lib.hid (bq1z n j hlt)
          have e := Lib.hid (bol_succ n j)
          have t0 := hduo.c0
          have t1 := hduo.c1
          have htl := hduo.lt
          go_wp2_with fail
          refine (sqIndexOf_any n ((j : Int) - n) (-(n : Int)) (by omega) (by omega) (by omega) (by omega) (by omega) (by omega) _).mono ?_
          rintro e' w4 ⟨rfl, hb4⟩
          rw [← HE.out]
          have hduo4 := hduo.of (hb4.block _ htl)
          have hm4 := (hb4.cell (p := ⟨w.heap.size, 0, none⟩) (by simp; omega)).trans hm
          have ho4 := own_now ho hb4
          have hB4 := bnext hb hb4
          have htl4 := hduo4.lt
          have hmlt : w.heap.size < w4.heap.size := by omega
          clear hduo hm ho hb hb4 t0 t1
          go_wp2_with (at_builtin; refine append_fit_int w.heap.size (w.heap.size + 1) (8 * n) j _ _ (bol n j) _ rfl _ _ rfl rfl rfl rfl ho4 (by omega) ?_; intro w5 ho5 hb5 hk5; have hduo5 := hduo4.of (hk5 _ htl4 (by omega)); have t0 := hduo5.c0; have t1 := hduo5.c1)
          have hm5 : w5.cell? ⟨w.heap.size, 0, none⟩ = some (.int .i64 n) := (World.cell?_of_block (w := w4) (hk5 w.heap.size hmlt (by omega))).trans hm4
          go_roundw
          case rel => exact ⟨j + 1, by omega, by go_num, by go_num, by go_num, by go_num, hduo5, hm5, by rw [e.out]; exact ho5, hB4.trans hb5⟩
          case measure => simp [intOf]; omega
        · have hj2 : j = 2 * n := by omega
          rw [hj2] at ho
          clear hj2
          have ho' : wr.ownsRow w.heap.size 3 1 (.slice (some ⟨w.heap.size + 1, 0, none⟩) (2 * n) (8 * n)) (2 * n) ((bol n (2 * n)).map (Value.int .i64)) := (by have e8 : 2 * n = 2 * n := (by omega); rw [e8] at ho; exact ho)
          go_wp2_with fail
          go_roundw
          case rel => exact ⟨1, 2 * n, _, _, by omega, rfl, by go_num, rfl, rfl, .inr (.inl ⟨rfl, rfl, by omega, by omega⟩), hm, ho', hb⟩
          case measure => simp [intOf]
    · have ix : ∀ w : World, (Instr.index 174 (.agg #[.int .i64 1, .int .i64 0, .int .i64 0, .int .i64 1, .int .i64 (-1), .int .i64 0, .int .i64 0, .int .i64 (-1)]) (.int .i64 1)).run Tryd.prog w = .ok (.agg #[.int .i64 0, .int .i64 1]) w := fun _ => by kernel_rfl
      have hduo := heap_alloc_new wo (.cells #[.int .i64 0, .int .i64 1] 93)
      go_wp2_with fail
      go_loopw [3, 4, 5, 29] (fun v3 v4 v5 v29 wr => ∃ j : Nat, j ≤ 2 * n ∧ v29 = .int .i64 j ∧ v3 = .slice (some ⟨w.heap.size + 1, 0, none⟩) (2 * n + j) (8 * n) ∧ v4 = .int .i64 (n : Int) ∧ v5 = .int .i64 ((j : Int) - n) ∧ Duo wr wo.heap.size 0 1 ∧ wr.cell? ⟨w.heap.size, 0, none⟩ = some (.int .i64 n) ∧
          wr.ownsRow w.heap.size 3 1 (.slice (some ⟨w.heap.size + 1, 0, none⟩) (2 * n + j) (8 * n)) (2 * n + j) ((bol n (2 * n + j)).map (Value.int .i64)) ∧ Below w.heap.size w wr) (fun _ _ _ v29 _ => 2 * n - (intOf v29).toNat)
      case atStart => exact ⟨0, Nat.zero_le _, rfl, by go_num, by go_num, by go_num, hduo, (World.cell?_alloc_past _ _ _ (by show w.heap.size < wo.heap.size; omega)).trans hm, ho.alloc _, balloc hb _⟩
      case round =>
        clear hduo hm ho hb
        obtain ⟨j, hj, rfl, rfl, rfl, rfl, hduo, hm, ho, hb⟩ := hrel
        have hz := hb.size
        by_cases hlt : j < 2 * n
        · have HE := Lib.hid (bq2 n j hlt)
          have e := Lib.hid (bol_succ n (2 * n + j))
          have t0 := hduo.c0
          have t1 := hduo.c1
          have htl := hduo.lt
          go_wp2_with fail
          refine (sqIndexOf_any n (n : Int) ((j : Int) - n) (by omega) (by omega) (by omega) (by omega) (by omega) (by omega) _).mono ?_
          rintro e' w4 ⟨rfl, hb4⟩
          rw [← HE.out]
          have hduo4 := hduo.of (hb4.block _ htl)
          have hm4 := (hb4.cell (p := ⟨w.heap.size, 0, none⟩) (by simp; omega)).trans hm
          have ho4 := own_now ho hb4
          have hB4 := bnext hb hb4
          have htl4 := hduo4.lt
          have hmlt : w.heap.size < w4.heap.size := by omega
          clear hduo hm ho hb hb4 t0 t1
          go_wp2_with (at_builtin; refine append_fit_int w.heap.size (w.heap.size + 1) (8 * n) (2 * n + j) _ _ (bol n (2 * n + j)) _ rfl _ _ rfl rfl rfl rfl ho4 (by omega) ?_; intro w5 ho5 hb5 hk5; have hduo5 := hduo4.of (hk5 _ htl4 (by omega)); have t0 := hduo5.c0; have t1 := hduo5.c1)
          have hm5 : w5.cell? ⟨w.heap.size, 0, none⟩ = some (.int .i64 n) := (World.cell?_of_block (w := w4) (hk5 w.heap.size hmlt (by omega))).trans hm4
          go_roundw
          case rel => exact ⟨j + 1, by omega, by go_num, by go_num, by go_num, by go_num, hduo5, hm5, by rw [show 2 * n + (j + 1) = 2 * n + j + 1 by omega, e.out]; exact ho5, hB4.trans hb5⟩
          case measure => simp [intOf]; omega
        · have hj2 : j = 2 * n := by omega
          rw [hj2] at ho
          clear hj2
          have ho' : wr.ownsRow w.heap.size 3 1 (.slice (some ⟨w.heap.size + 1, 0, none⟩) (4 * n) (8 * n)) (4 * n) ((bol n (4 * n)).map (Value.int .i64)) := (by have e8 : 2 * n + 2 * n = 4 * n := (by omega); rw [e8] at ho; exact ho)
          go_wp2_with fail
          go_roundw
          case rel => exact ⟨2, 4 * n, _, _, by omega, rfl, by go_num, rfl, rfl, .inr (.inr (.inl ⟨rfl, rfl, by omega, by omega⟩)), hm, ho', hb⟩
          case measure => simp [intOf]
    · have ix : ∀ w : World, (Instr.index 174 (.agg #[.int .i64 1, .int .i64 0, .int .i64 0, .int .i64 1, .int .i64 (-1), .int .i64 0, .int .i64 0, .int .i64 (-1)]) (.int .i64 2)).run Tryd.prog w = .ok (.agg #[.int .i64 (-1), .int .i64 0]) w := fun _ => by kernel_rfl
      have hduo := heap_alloc_new wo (.cells #[.int .i64 (-1), .int .i64 0] 93)
      go_wp2_with fail
      go_loopw [3, 4, 5, 29] (fun v3 v4 v5 v29 wr => ∃ j : Nat, j ≤ 2 * n ∧ v29 = .int .i64 j ∧ v3 = .slice (some ⟨w.heap.size + 1, 0, none⟩) (4 * n + j) (8 * n) ∧ v4 = .int .i64 ((n : Int) - j) ∧ v5 = .int .i64 (n : Int) ∧ Duo wr wo.heap.size (-1) 0 ∧ wr.cell? ⟨w.heap.size, 0, none⟩ = some (.int .i64 n) ∧
          wr.ownsRow w.heap.size 3 1 (.slice (some ⟨w.heap.size + 1, 0, none⟩) (4 * n + j) (8 * n)) (4 * n + j) ((bol n (4 * n + j)).map (Value.int .i64)) ∧ Below w.heap.size w wr) (fun _ _ _ v29 _ => 2 * n - (intOf v29).toNat)
      case atStart => exact ⟨0, Nat.zero_le _, rfl, by go_num, by go_num, by go_num, hduo, (World.cell?_alloc_past _ _ _ (by show w.heap.size < wo.heap.size; omega)).trans hm, ho.alloc _, balloc hb _⟩
      case round =>
        clear hduo hm ho hb
        obtain ⟨j, hj, rfl, rfl, rfl, rfl, hduo, hm, ho, hb⟩ := hrel
        have hz := hb.size
        by_cases hlt : j < 2 * n
        · have HE := Lib.hid (bq3 n j hlt)
          have e := Lib.hid (bol_succ n (4 * n + j))
          have t0 := hduo.c0
          have t1 := hduo.c1
          have htl := hduo.lt
          go_wp2_with fail
          refine (sqIndexOf_any n ((n : Int) - j) (n : Int) (by omega) (by omega) (by omega) (by omega) (by omega) (by omega) _).mono ?_
          rintro e' w4 ⟨rfl, hb4⟩
          rw [← HE.out]
          have hduo4 := hduo.of (hb4.block _ htl)
          have hm4 := (hb4.cell (p := ⟨w.heap.size, 0, none⟩) (by simp; omega)).trans hm
          have ho4 := own_now ho hb4
          have hB4 := bnext hb hb4
          have htl4 := hduo4.lt
          have hmlt : w.heap.size < w4.heap.size := by omega
          clear hduo hm ho hb hb4 t0 t1
          go_wp2_with (at_builtin; refine append_fit_int w.heap.size (w.heap.size + 1) (8 * n) (4 * n + j) _ _ (bol n (4 * n + j)) _ rfl _ _ rfl rfl rfl rfl ho4 (by omega) ?_; intro w5 ho5 hb5 hk5; have hduo5 := hduo4.of (hk5 _ htl4 (by omega)); have t0 := hduo5.c0; have t1 := hduo5.c1)
          have hm5 : w5.cell? ⟨w.heap.size, 0, none⟩ = some (.int .i64 n) := (World.cell?_of_block (w := w4) (hk5 w.heap.size hmlt (by omega))).trans hm4
          go_roundw
          case rel => exact ⟨j + 1, by omega, by go_num, by go_num, by go_num, by go_num, hduo5, hm5, by rw [show 4 * n + (j + 1) = 4 * n + j + 1 by omega, e.out]; exact ho5, hB4.trans hb5⟩
          case measure => simp [intOf]; omega
        · have hj2 : j = 2 * n := by omega
          rw [hj2] at ho
          clear hj2
          have ho' : wr.ownsRow w.heap.size 3 1 (.slice (some ⟨w.heap.size + 1, 0, none⟩) (6 * n) (8 * n)) (6 * n) ((bol n (6 * n)).map (Value.int .i64)) := (by have e8 : 4 * n + 2 * n = 6 * n := (by omega); rw [e8] at ho; exact ho)
          go_wp2_with fail
          go_roundw
          case rel => exact ⟨3, 6 * n, _, _, by omega, rfl, by go_num, rfl, rfl, .inr (.inr (.inr (.inl ⟨rfl, rfl, by omega, by omega⟩))), hm, ho', hb⟩
          case measure => simp [intOf]
    · have ix : ∀ w : World, (Instr.index 174 (.agg #[.int .i64 1, .int .i64 0, .int .i64 0, .int .i64 1, .int .i64 (-1), .int .i64 0, .int .i64 0, .int .i64 (-1)]) (.int .i64 3)).run Tryd.prog w = .ok (.agg #[.int .i64 0, .int .i64 (-1)]) w := fun _ => by kernel_rfl
      have hduo := heap_alloc_new wo (.cells #[.int .i64 0, .int .i64 (-1)] 93)
      go_wp2_with fail
      go_loopw [3, 4, 5, 29] (fun v3 v4 v5 v29 wr => ∃ j : Nat, j ≤ 2 * n ∧ v29 = .int .i64 j ∧ v3 = .slice (some ⟨w.heap.size + 1, 0, none⟩) (6 * n + j) (8 * n) ∧ v4 = .int .i64 (-(n : Int)) ∧ v5 = .int .i64 ((n : Int) - j) ∧ Duo wr wo.heap.size 0 (-1) ∧ wr.cell? ⟨w.heap.size, 0, none⟩ = some (.int .i64 n) ∧
          wr.ownsRow w.heap.size 3 1 (.slice (some ⟨w.heap.size + 1, 0, none⟩) (6 * n + j) (8 * n)) (6 * n + j) ((bol n (6 * n + j)).map (Value.int .i64)) ∧ Below w.heap.size w wr) (fun _ _ _ v29 _ => 2 * n - (intOf v29).toNat)
      case atStart => exact ⟨0, Nat.zero_le _, rfl, by go_num, by go_num, by go_num, hduo, (World.cell?_alloc_past _ _ _ (by show w.heap.size < wo.heap.size; omega)).trans hm, ho.alloc _, balloc hb _⟩
      case round =>
        clear hduo hm ho hb
        obtain ⟨j, hj, rfl, rfl, rfl, rfl, hduo, hm, ho, hb⟩ := hrel
        have hz := hb.size
        by_cases hlt : j < 2 * n
        · have HE := Lib.hid (bq4 n j hlt)
          have e := Lib.hid (bol_succ n (6 * n + j))
          have t0 := hduo.c0
          have t1 := hduo.c1
          have htl := hduo.lt
          go_wp2_with fail
          refine (sqIndexOf_any n (-(n : Int)) ((n : Int) - j) (by omega) (by omega) (by omega) (by omega) (by omega) (by omega) _).mono ?_
          rintro e' w4 ⟨rfl, hb4⟩
          rw [← HE.out]
          have hduo4 := hduo.of (hb4.block _ htl)
          have hm4 := (hb4.cell (p := ⟨w.heap.size, 0, none⟩) (by simp; omega)).trans hm
          have ho4 := own_now ho hb4
          have hB4 := bnext hb hb4
          have htl4 := hduo4.lt
          have hmlt : w.heap.size < w4.heap.size := by omega
          clear hduo hm ho hb hb4 t0 t1
          go_wp2_with (at_builtin; refine append_fit_int w.heap.size (w.heap.size + 1) (8 * n) (6 * n + j) _ _ (bol n (6 * n + j)) _ rfl _ _ rfl rfl rfl rfl ho4 (by omega) ?_; intro w5 ho5 hb5 hk5; have hduo5 := hduo4.of (hk5 _ htl4 (by omega)); have t0 := hduo5.c0; have t1 := hduo5.c1)
          have hm5 : w5.cell? ⟨w.heap.size, 0, none⟩ = some (.int .i64 n) := (World.cell?_of_block (w := w4) (hk5 w.heap.size hmlt (by omega))).trans hm4
          go_roundw
          case rel => exact ⟨j + 1, by omega, by go_num, by go_num, by go_num, by go_num, hduo5, hm5, by rw [show 6 * n + (j + 1) = 6 * n + j + 1 by omega, e.out]; exact ho5, hB4.trans hb5⟩
          case measure => simp [intOf]; omega
        · have hj2 : j = 2 * n := by omega
          rw [hj2] at ho
          clear hj2
          have ho' : wr.ownsRow w.heap.size 3 1 (.slice (some ⟨w.heap.size + 1, 0, none⟩) (8 * n) (8 * n)) (8 * n) ((bol n (8 * n)).map (Value.int .i64)) := (by have e8 : 6 * n + 2 * n = 8 * n := (by omega); rw [e8] at ho; exact ho)
          go_wp2_with fail
          go_roundw
          case rel => exact ⟨4, 8 * n, _, _, by omega, rfl, by go_num, rfl, rfl, .inr (.inr (.inr (.inr ⟨rfl, rfl⟩))), hm, ho', hb⟩
          case measure => simp [intOf]
    · go_wp2_with fail
      go_ret
      exact ⟨_, rfl, by rw [bol_len]; exact ho, hb⟩
end Go.Proofs.YtcahecohjmahaaaDoor
