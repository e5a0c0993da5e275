import Derived.Test.YtelchpdlfedleaaS23
namespace Go.Proofs.Ytelchpdlfedleaa
open Go.RowKit
set_option maxRecDepth 4000
theorem arK_size (im : List (List Int)) (n k : Nat) : (arK im n k).size = 3 := rfl
theorem arK_one (im : List (List Int)) (n k : Nat) : (arK im n k).all (·.oneCell') = true := spA3_one _ _ _
theorem reg_not (im : List (List Int)) (n k : Nat) (h1 : agK im n k = false) (h2 : decide (hasK im n k = 0) = false) : hasK im n k = 2 := by
  have h := hasV_four (ar im n (cq n k 1) (cq n k 2)) (ar im n (cq n k 2) (cq n k 0)) (ar im n (cq n k 0) (cq n k 1))
  change hasK im n k = 1 ∨ hasK im n k = -1 ∨ hasK im n k = 0 ∨ hasK im n k = 2 at h
  simp only [agK, decide_eq_false_iff_not] at h1 h2
  omega
theorem reg_ok1 (im : List (List Int)) (n k : Nat) (h1 : agK im n k = true) : hasK im n k ≠ 2 := by
  simp only [agK, decide_eq_true_eq] at h1
  omega
theorem reg_ok2 (im : List (List Int)) (n k : Nat) (h1 : decide (hasK im n k = 0) = true) : hasK im n k ≠ 2 := by
  simp only [decide_eq_true_eq] at h1
  omega
set_option maxHeartbeats 3200000 in
theorem isRegular_any (n : Nat) (h1 : 1 ≤ n) (h2 : n ≤ 5) (im : List (List Int)) (hy : imB n im = true) (w : World) :
    Calls Try.prog 71 #[.agg (mapA n im)] w fun e w' => e = .returned (.bool (regB im n)) ∧ Below w.heap.size w w' := by
  have h64 := ci_len64 n (by omega)
  have hm0 : (mapA n im)[0]? = some (.int .i64 n) := mapF_zero _ _
  have HK := Lib.hid (fun k (hk : k < (ci n).length) w => areasIn_cell n k h1 h2 hk im hy w)
  have HG := Lib.hid (fun k w => agree_cell n k im w)
  have HD := Lib.hid (fun k w => disagree_cell n k im w)
  have HNO := Lib.hid (regB_no im n)
  have HYES := Lib.hid (regB_yes im n)
  have HR := Lib.hid (reg_not im n)
  have HR1 := Lib.hid (reg_ok1 im n)
  have HR2 := Lib.hid (reg_ok2 im n)
  obtain ⟨-, hall⟩ := ci_cq n (by omega)
  have HALL := Lib.hid hall
  have hb0 := balloc (Below.refl w.heap.size w) (.cells (mapA n im) 53)
  have hg0 := heap_alloc_new w (.cells (mapA n im) 53)
  have hz0 : (w.alloc (.cells (mapA n im) 53)).heap.size = w.heap.size + 1 := by simp
  clear hy hall
  go_enter Try.func71, Try.ntmps71
  go_wp2_with fail
  refine (cells_any n h1 (by omega) _).mono ?_
  rintro e w1 ⟨v, rfl, hc1, hb1⟩
  obtain ⟨hfl, a, cap, b, rfl, hrd⟩ := trio_shape hc1
  have hg1 := (hb1.block w.heap.size (by omega)).trans hg0
  have hB1 := bnext hb0 hb1
  have hlt1 : w.heap.size < w1.heap.size := by have := hb1.size; omega
  have HRD := Lib.hid hrd
  have HFL := Lib.hid hfl
  have HBL : Hid (∀ j, j < (ci n).flatten.length → b < w1.heap.size) := Lib.hid (fun j hj => own_lt hc1 b (by rw [(hrd j hj).1]; rfl))
  clear hb1 hc1 hrd hfl hg0 hb0 hz0 hm0
  go_wp2_with fail
  go_loopw [10] (fun v10 wr => ∃ k : Nat, k ≤ (ci n).length ∧ v10 = .int .i64 k ∧ Below w1.heap.size w1 wr ∧ ∀ j, j < k → hasK im n j ≠ 2) (fun v10 _ => (ci n).length - (intOf v10).toNat)
  case atStart => exact ⟨0, Nat.zero_le _, rfl, Below.refl _ _, by omega⟩
  case round =>
    obtain ⟨k, hk, rfl, hb, hall⟩ := hrel
    have HA := Lib.hid hall
    obtain ⟨wq, rfl⟩ : ∃ wq : World, wq = wr := ⟨_, rfl⟩
    clear hall
    by_cases hlt : k < (ci n).length
    · obtain ⟨-, hx, hy, hz, -, -, -⟩ := HALL.out k hlt
      obtain ⟨rfl, c0⟩ := HRD.out (k * 3) (by have := HFL.out; omega)
      have c1 := (HRD.out (k * 3 + 1) (by have := HFL.out; omega)).2
      have c2 := (HRD.out (k * 3 + 2) (by have := HFL.out; omega)).2
      have hbl := HBL.out (k * 3) (by have := HFL.out; omega)
      rw [hx] at c0
      rw [hy] at c1
      rw [hz] at c2
      have d0 := (hb.cell (p := ⟨b, k * 3, none⟩) hbl).trans c0
      have d1 := (hb.cell (p := ⟨b, k * 3 + 1, none⟩) hbl).trans c1
      have d2 := (hb.cell (p := ⟨b, k * 3 + 2, none⟩) hbl).trans c2
      have hgr := (hb.block w.heap.size hlt1).trans hg1
      have hzr := hb.size
      have hgA : (wq.alloc (.cells #[.int .i64 (cq n k 0 : Nat), .int .i64 (cq n k 1 : Nat), .int .i64 (cq n k 2 : Nat)] 61)).heap[w.heap.size]? = some (.cells (mapA n im) 53 (0, 0)) := (Below.heap_alloc wq _ _ (by omega)).trans hgr
      have HKk := Lib.hid (HK.out k hlt)
      have HGk := Lib.hid (HG.out k)
      have HDk := Lib.hid (HD.out k)
      have HT : Hid (hasK im n k ≠ 2 → ∀ j, j < k + 1 → hasK im n j ≠ 2) := Lib.hid (fun hx j hj => by
        by_cases e : j = k
        · rw [e]; exact hx
        · exact HA.out j (by omega))
      have HF := Lib.hid (HNO.out k hlt)
      have hki : (k : Int) < ((ci n).length : Int) := by omega
      have HRk := Lib.hid (HR.out k)
      have HR1k := Lib.hid (HR1.out k)
      have HR2k := Lib.hid (HR2.out k)
      have hBq := balloc hb (.cells #[.int .i64 (cq n k 0 : Nat), .int .i64 (cq n k 1 : Nat), .int .i64 (cq n k 2 : Nat)] 61)
      clear c0 c1 c2 hx hy hz hgr
      go_wp2_with (first | ((with_reducible refine load_blk blkM ?_ _ rfl (w.heap.size) ?_ (mapA n im) hgA (mapA_size _ _) ?_); exact rfl; exact rfl; simp only [Act.put, List.setIfInBounds_toArray, List.set_cons_zero, List.set_cons_succ]))
      refine (HKk.out _).mono ?_
      rintro e w3 ⟨rfl, hb3⟩
      have hB3 := hBq.trans (hb3.mono (by simp; omega))
      have hz3 := hB3.size
      go_wp2_with (first | (with_reducible refine alloc_blk zspot run_alloc_ar rfl rfl ?_) | ((with_reducible refine store_blk blkAr rfl _ _ rfl (w3.heap.size) (arK im n k) (zspot) ?_ ?_ (heap_alloc_new _ _) (zspot_size) (arK_size _ _ _) (arK_one _ _ _) (w1.heap.size) (by omega) ?_); exact rfl; exact rfl; intro w4 hg4 hb4 hk4 hz4; have hB4 := (balloc hB3 (.cells zspot 71)).trans hb4) | ((with_reducible refine load_blk blkAr ?_ _ rfl (w3.heap.size) ?_ (arK im n k) hg4 (arK_size _ _ _) ?_); exact rfl; exact rfl; simp only [Act.put, List.setIfInBounds_toArray, List.set_cons_zero, List.set_cons_succ]))
      refine (HGk.out _).mono ?_
      rintro e w5 ⟨rfl, hb5⟩
      have hB5 := hB4.trans (hb5.mono hB4.size)
      have hg5 := heap_later hg4 hb5
      cases hG : agK im n k
      · go_wp2_with ((with_reducible refine load_blk blkAr ?_ _ rfl (w3.heap.size) ?_ (arK im n k) hg5 (arK_size _ _ _) ?_); exact rfl; exact rfl; simp only [Act.put, List.setIfInBounds_toArray, List.set_cons_zero, List.set_cons_succ])
        refine (HDk.out _).mono ?_
        rintro e w6 ⟨rfl, hb6⟩
        have hB6 := hB5.trans (hb6.mono hB5.size)
        cases hD : decide (hasK im n k = 0)
        · have HFF := Lib.hid (HF.out (HRk.out hG hD))
          clear hG hD
          go_wp2_with fail
          go_ret
          exact ⟨ret_bool HFF.out.symm, bnext hB1 hB6⟩
        · have HTT := Lib.hid (HT.out (HR2k.out hD))
          clear hG hD
          go_wp2_with fail
          go_roundw
          case rel => exact ⟨k + 1, by omega, by go_num, hB6, HTT.out⟩
          case measure => simp [intOf]; omega
      · have HTT := Lib.hid (HT.out (HR1k.out hG))
        clear hG
        go_wp2_with fail
        go_roundw
        case rel => exact ⟨k + 1, by omega, by go_num, hB5, HTT.out⟩
        case measure => simp [intOf]; omega
    · have hT := Lib.hid (HYES.out (fun j hj => HA.out j (by omega)))
      go_wp2_with fail
      go_ret
      exact ⟨ret_bool hT.out.symm, bnext hB1 hb⟩
end Go.Proofs.Ytelchpdlfedleaa
