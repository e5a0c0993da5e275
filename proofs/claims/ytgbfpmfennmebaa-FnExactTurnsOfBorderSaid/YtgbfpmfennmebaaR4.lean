import Derived.Test.YtgbfpmfennmebaaR3
import Derived.Test.YtgbfpmfennmebaaFc
namespace Go.Proofs.Ytgbfpmfennmebaa
open Go.RowKit
set_option maxRecDepth 4000
theorem wp_val {ops : Array Oper} {rest : List Oper} {o : Oper} {a : Act} {w : World} {Q : Exit → Act → World → Prop} (hw : Region.wanted o (yielded ops a.tmps) = true) (v : Value) (hr : (execOp a.eval o).run Try.prog w = .ok (.value v) w)
    (h : wpList Try.prog ops Q rest (a.put o.dst v) w) : wpList Try.prog ops Q (o :: rest) a w :=
  wpList_step fun K hK => by
    rw [if_pos hw]
    unfold Oper.wp
    rw [hr]
    exact hK _ _ h
set_option maxHeartbeats 400000 in
theorem hasRoom_any (cs : List (List Int)) (ps : List (Int × Int)) (fv : Value) (base : Nat) (r : Array Value) (k : Int) (w : World) (hv : RmsV w base cs ps fv r) :
    Calls Try.prog 33 #[.agg r, .int .i64 k] w fun e w' => e = .returned (.bool (decide (0 ≤ k ∧ k < (cs.length : Nat)))) ∧ Below w.heap.size w w' := by
  obtain ⟨ca, cc, ba, bc, rfl, -⟩ := hv
  have hB := balloc (Below.refl w.heap.size w) (.cells #[.slice ca cs.length cc, .slice ba ps.length bc, fv] 51)
  have q0 : (w.alloc (.cells #[.slice ca cs.length cc, .slice ba ps.length bc, fv] 51)).cell? ⟨w.heap.size, 0, none⟩ = some (.slice ca cs.length cc) := blk_cell (heap_alloc_new w _) 0 _ rfl
  generalize cs.length = m at *
  generalize ps.length = m2 at *
  by_cases hk0 : 0 ≤ k
  · by_cases hk1 : k < (m : Int)
    · go_enter Try.func33, Try.ntmps33
      go_wp2_with fail
      go_ret
      exact ⟨ret_bool (by first | (simp; done) | (simp; omega)), hB⟩
    · go_enter Try.func33, Try.ntmps33
      go_wp2_with fail
      go_ret
      exact ⟨ret_bool (by first | (simp; done) | (simp; omega)), hB⟩
  · go_enter Try.func33, Try.ntmps33
    go_wp2_with fail
    go_ret
    exact ⟨ret_bool (by first | (simp; done) | (simp; omega)), hB⟩
theorem doorsT_any (n : Nat) (xs : List Int) (base g : Nat) (r : Array Value) (k : Nat) (w : World) (hL : labB n xs = true) (hr : RmW 62 #[] (capD g) (drB xs) (ci n) (bps n (3 * n)) base r w) (hk : k < (ci n).length) :
    Calls Try.prog 45 #[.agg r, .int .i64 k] w fun e w' => ∃ v, e = .returned v ∧ PairV w' w.heap.size v (dcell xs n k) ∧ Below w.heap.size w w' := by
  have e := doorsOf_any _ #[] (capD g) (drB xs) (ci n) (bps n (3 * n)) (Pr.cnt n) base r k w (fgr_ci hL) hr hk
  rwa [gd_ci xs (labB_yes hL).2.1 hk] at e
theorem dcell_len (xs : List Int) (n k : Nat) : (dcell xs n k).length ≤ 3 := Nat.le_trans (List.length_filter_le _ _) (by simp [cpairs])
set_option maxHeartbeats 800000 in
theorem isFull_any (n : Nat) (xs : List Int) (base : Nat) (R : Array Value) (k : Nat) (w : World) (hL : labB n xs = true) (hrv : RoomsT w base n xs R) (hk : k < (ci n).length) :
    Calls Try.prog 34 #[.agg R, .int .i64 k] w fun e w' => e = .returned (.bool (fullB xs n k)) ∧ Below w.heap.size w w' := by
  obtain ⟨g, r, hrm, hrs, -, hRs, -, -, -, hrj, -⟩ := rt_row hL hrv
  have hB := balloc (Below.refl w.heap.size w) (.cells R 53)
  have hg1 := heap_alloc_new w (.cells R 53)
  have HD := Lib.hid (fun w' (hb : Below w.heap.size w w') => doorsT_any n xs base g r k w' hL (hrm.later hb) hk)
  have HF : Hid (((dcell xs n k).length == 1) = fullB xs n k) := Lib.hid (by
    rcases dcell_cases n k xs hL hk with ⟨e, p, h⟩ | ⟨e, h | ⟨p, q, h, -⟩⟩ <;> rw [e, h] <;> rfl)
  have hlen := dcell_len xs n k
  clear hL hrv hrm
  go_enter Try.func34, Try.ntmps34
  go_wp2_with ((with_reducible refine load_win blkRms ?_ _ rfl (w.heap.size) 46 ?_ R r hg1 hrj hrs ?_); exact rfl; exact rfl; simp only [Act.put, List.setIfInBounds_toArray, List.set_cons_zero, List.set_cons_succ])
  refine (HD.out _ hB).mono ?_
  rintro e w2 ⟨v, rfl, hp, hb2⟩
  obtain ⟨a, cap, b, rfl, -⟩ := pair_shape hp
  have hB2 := bnext hB hb2
  clear hp hb2 hB
  generalize (dcell xs n k).length = m at hlen HF ⊢
  match m, hlen with
  | 0, _ | 1, _ | 2, _ | 3, _ =>
    go_wp2_with fail
    go_ret
    exact ⟨by rw [← HF.out]; rfl, hB2⟩
set_option maxHeartbeats 800000 in
theorem fullCells_any (n : Nat) (xs : List Int) (base : Nat) (R : Array Value) (w : World) (hL : labB n xs = true) (hrv : RoomsT w base n xs R) :
    Calls Try.prog 37 #[.agg R] w fun e w' => ∃ v, e = .returned v ∧ w'.ownsRow w.heap.size 3 1 v (flt (fullB xs n) (ci n).length).length ((flt (fullB xs n) (ci n).length).map (Value.int .i64)) ∧ Below w.heap.size w w' := by
  have hbd := ci_bd n (labB_yes hL).2.1
  obtain ⟨g, r, hrm, hrs, -, hRs, -, -, -, hrj, -⟩ := rt_row hL hrv
  obtain ⟨ca, cc, ba, bc, hre, -⟩ := hrm.v
  have hb0 := balloc (Below.refl w.heap.size w) (.cells R 53)
  have hg1 := heap_alloc_new w (.cells R 53)
  have hz1 : (w.alloc (.cells R 53)).heap.size = w.heap.size + 1 := by simp
  have q46 : (w.alloc (.cells R 53)).cell? ⟨w.heap.size, 46, none⟩ = some (.slice ca (ci n).length cc) := by
    refine blk_cell hg1 46 _ ?_
    have e := hrj 0 (by omega)
    rw [Nat.add_zero] at e
    rw [e, hre]; rfl
  have HL := Lib.hid hL
  have HRV := Lib.hid (hrv.later hb0)
  clear hL hrv hrm hre hrj
  go_enter Try.func37, Try.ntmps37
  go_wp2_with fail
  generalize w.alloc (.cells R 53) = w1 at hb0 hg1 hz1 HRV ⊢
  go_loopw [3, 9] (fun v3 v9 wr => ∃ k : Nat, k ≤ (ci n).length ∧ v9 = .int .i64 k ∧ wr.ownsRow w1.heap.size 3 1 v3 (flt (fullB xs n) k).length ((flt (fullB xs n) k).map (Value.int .i64)) ∧ Below w1.heap.size w1 wr) (fun _ v9 _ => (ci n).length - (intOf v9).toNat)
  case atStart => exact ⟨0, Nat.zero_le _, rfl, World.ownsRow_nil _ _ _ _, Below.refl _ _⟩
  case round =>
    obtain ⟨k, hk, rfl, ho, hb⟩ := hrel
    have hfl := flt_len (fullB xs n) k
    by_cases hlt : k < (ci n).length
    · have hg2 := (hb.block w.heap.size (by omega)).trans hg1
      have hrv2 := HRV.out.later hb
      have HY := Lib.hid (flt_yes (fullB xs n) k)
      have HN := Lib.hid (flt_no (fullB xs n) k)
      have hki : (k : Int) < ((ci n).length : Int) := by omega
      have hz := hb.size
      go_wp2_with ((with_reducible refine load_blk blkLR ?_ _ rfl (w.heap.size) ?_ R hg2 hRs ?_); exact rfl; exact rfl; simp only [Act.put, List.setIfInBounds_toArray, List.set_cons_zero, List.set_cons_succ])
      refine (isFull_any n xs _ R k _ HL.out hrv2 hlt).mono ?_
      rintro e w2 ⟨rfl, hb2⟩
      have ho2 := own_now ho hb2
      have hB2 := bnext hb hb2
      have hz2 := hB2.size
      clear ho hb hb2
      cases hN : fullB xs n k
      · have e := Lib.hid (HN.out hN)
        clear hN
        go_wp2_with fail
        go_roundw
        case rel => exact ⟨k + 1, by omega, by go_num, by rw [e.out]; exact ho2, hB2⟩
        case measure => simp [intOf]; omega
      · have e := Lib.hid (HY.out hN)
        clear hN
        go_wp2_with (at_builtin; refine append_int w1.heap.size _ _ (flt (fullB xs n) k) _ rfl _ _ rfl rfl rfl ho2 hz2 (by omega) ?_; intro v' w3 ho3 hb3)
        go_roundw
        case rel => exact ⟨k + 1, by omega, by go_num, by rw [e.out]; exact ho3, hB2.trans hb3⟩
        case measure => simp [intOf]; omega
    · have hk2 : k = (ci n).length := by omega
      rw [hk2] at ho
      clear hk2
      obtain ⟨-, sa', sc', sb', rfl, -, -⟩ := own_shape ho
      go_wp2_with fail
      go_ret
      exact ⟨_, rfl, own_base ho hb0.size, bnext hb0 hb⟩
end Go.Proofs.Ytgbfpmfennmebaa
