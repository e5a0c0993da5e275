import Derived.Test.YtcahecohjmahaaaDoorJk
namespace Go.Proofs.YtcahecohjmahaaaDoor
open Go.RowKit
set_option maxRecDepth 4000
/-- Who wins by the last door. -/
def winW (N M : Nat) (p : Int) : Int := if p / (M : Int) = (N : Int) - 1 then 1 else 2
def OutWBW (w : World) (x : Int) (ok : Bool) (e : Ending) (w' : World) : Prop := e = .returned (.tuple #[.int .i64 x, .bool ok]) ∧ Below w.heap.size w w'
theorem ret_wbw {x y : Int} {b : Bool} (h : y = x) : Ending.returned (.tuple #[.int .i64 y, .bool b]) = .returned (.tuple #[.int .i64 x, .bool b]) := by rw [h]
theorem specWBW_no (n m : Int) (xs : List Int) (a : Option Addr) (b len cap : Nat) (w : World) (hn : xs.length = len) (h : Rd w a b 0 xs) (hF : fullBd n m xs = false) :
    Calls Tryd.prog 27 #[.int .i64 n, .int .i64 m, .slice a len cap] w (OutWBW w 0 false) := by
  have HG := Lib.hid (hxFull_any n m xs a b 0 len cap w hn h)
  rw [hF] at HG
  clear h hn hF
  go_enter Tryd.func27, Tryd.ntmps27
  go_wp2_with fail
  refine HG.out.mono ?_
  rintro e w1 ⟨rfl, rfl⟩
  go_wp2_with fail
  go_ret2
  exact ⟨rfl, Below.refl _ _⟩
theorem hdl_last {n m : Int} {own : Int → Int} {L : Nat} {z : Int × Int × Int} (h : hst n m own L = some z) : (hdl n m own (L + 1)).getD L (0, 0) = (z.1, z.2.1) := by
  rw [hdl_succ, List.getD_eq_getElem?_getD, List.getElem?_append_right (by rw [hdl_len]; exact Nat.le_refl _), hdl_len, Nat.sub_self, h]
  rfl
theorem hdl_lastrow {n m : Int} {own : Int → Int} {L : Nat} {z : Int × Int × Int} (h : hst n m own L = some z) : ((hdl n m own (L + 1)).map lst).getD L [] = [z.1, z.2.1] := by
  have e := hdl_last h
  have hl : L < (hdl n m own (L + 1)).length := by rw [hdl_len]; exact Nat.lt_succ_self _
  rw [List.getD_eq_getElem?_getD, List.getElem?_eq_getElem hl] at e
  rw [List.getD_eq_getElem?_getD, List.getElem?_map, List.getElem?_eq_getElem hl]
  simp only [Option.getD_some] at e
  simp only [Option.map_some, Option.getD_some, e, lst]
set_option maxHeartbeats 1600000 in
theorem specWBW_yes (N M S n m s L p q : Nat) (l : Int) (xs : List Int) (C : HCtx N M S n m s xs L ((p : Int), (q : Int), l)) (hp : p < S) (a : Option Addr) (b len cap : Nat) (w : World) (hn : xs.length = len) (h : Rd w a b 0 xs) (hb0 : len = 0 ∨ b < w.heap.size) (hF : fullBd n m xs = true) :
    Calls Tryd.prog 27 #[.int .i64 n, .int .i64 m, .slice a len cap] w (OutWBW w (winW N M p) true) := by
  have HG := Lib.hid (hxFull_any n m xs a b 0 len cap w hn h)
  rw [hF] at HG
  have HW := Lib.hid (hxWalk_any N M S n m s L _ xs C a b len cap w hn h hb0)
  have HLR := Lib.hid (hdl_lastrow C.hL)
  have HDL := Lib.hid (hdl_len (n := (N : Int)) (m := (M : Int)) (own := hown n m xs) (L + 1))
  have hM := C.hM
  have hN := C.hN
  have hSb := C.hS
  have hLb := C.hLb
  have hnb : n ≤ 30 := by have := C.hs; have := C.hnm; have := Nat.le_mul_of_pos_right n (show 0 < m from C.h2); omega
  have hmb : m ≤ 30 := by have := C.hs; have := C.hnm; have := Nat.le_mul_of_pos_left m (show 0 < n from C.h1); omega
  have hM0 : (M : Int) ≠ 0 := by omega
  have hM0n : ¬ M = 0 := by omega
  obtain ⟨r, hr⟩ : ∃ r : Nat, r = p / M := ⟨_, rfl⟩
  have e1 : Int.tdiv (p : Int) (M : Int) = (r : Int) := by rw [hr]; exact (Int.ofNat_tdiv p M).symm
  have e2 : (p : Int) / (M : Int) = (r : Int) := by rw [hr]; exact (Int.natCast_ediv p M).symm
  have HWN : Hid (winW N M p = if (r : Int) = (N : Int) - 1 then 1 else 2) := Lib.hid (by rw [winW, e2])
  have hrp : r ≤ p := by rw [hr]; exact Nat.div_le_self _ _
  have HN := Lib.hid hN
  clear h hn hF hb0 C hr e2
  generalize hdl (N : Int) M (hown n m xs) (L + 1) = D at HW HLR HDL
  go_enter Tryd.func27, Tryd.ntmps27
  go_wp2_with fail
  refine HG.out.mono ?_
  rintro e w1 ⟨rfl, rfl⟩
  go_wp2_with fail
  refine HW.out.mono ?_
  rintro e w2 ⟨v, rfl, hcv, hb⟩
  obtain ⟨ga, gn, gc, rfl⟩ := cells_shape hcv
  have hgn := cells_slen hcv
  simp only [hslen, List.length_map] at hgn
  have hgL : gn = L + 1 := by rw [hgn, HDL.out]
  subst hgL
  clear hgn
  obtain ⟨-, hmx, hr⟩ := cells_row hcv
  obtain ⟨g, ra, rc, rb, rfl, hg1, hg2, hcell, hx, hrd, -, -⟩ := hr L (by rw [List.length_map, HDL.out]; exact Nat.lt_succ_self _)
  rw [HLR.out] at hcell hrd
  obtain ⟨rfl, c0⟩ := hrd.2 0 (by simp)
  have c0' : w2.cell? ⟨rb, 0, none⟩ = some (.int .i64 (p : Int)) := c0
  have hcell' : w2.cell? ⟨g, L, none⟩ = some (.slice (some ⟨rb, 0, none⟩) 2 rc) := hcell
  have hLi : ((L + 1 : Nat) : Int) - 1 = (L : Int) := by omega
  clear hr hrd hx hmx hcv hcell c0
  have HN2 : Hid (((r : Int) == (n : Int) + 1) = decide ((r : Int) = (N : Int) - 1)) := Lib.hid (by rw [← HN.out, Bool.eq_iff_iff]; simp; omega)
  clear hN
  by_cases hre : (r : Int) = (n : Int) + 1
  · have hb1 : ((r : Int) == (n : Int) + 1) = true := by simpa using hre
    have HV : Hid (winW N M p = 1) := Lib.hid (by rw [HWN.out, if_pos (by have := HN.out; omega)])
    clear hre
    go_wp2_with fail
    go_ret2
    exact ⟨ret_wbw HV.out.symm, hb⟩
  · have hb1 : ((r : Int) == (n : Int) + 1) = false := by simpa using hre
    have HV : Hid (winW N M p = 2) := Lib.hid (by rw [HWN.out, if_neg (by have := HN.out; omega)])
    clear hre
    go_wp2_with fail
    go_ret2
    exact ⟨ret_wbw HV.out.symm, hb⟩
set_option maxHeartbeats 800000 in
theorem implWBW_no (n m : Int) (xs : List Int) (a : Option Addr) (b len cap : Nat) (w : World) (hn : xs.length = len) (hsm : len ≤ 1048576) (h : Rd w a b 0 xs) (hb0 : len = 0 ∨ b < w.heap.size) (hF : fullBd n m xs = false) :
    Calls Tryd.prog 28 #[.int .i64 n, .int .i64 m, .slice a len cap] w (OutWBW w 0 false) := by
  have HG := Lib.hid (fullBoardOf_no n m xs a b len cap w hn hsm h hb0 hF)
  clear h hn hF hb0
  go_enter Tryd.func28, Tryd.ntmps28
  go_wp2_with fail
  refine HG.out.mono ?_
  rintro e w1 ⟨rfl, hb1⟩
  go_wp2_with (first
    | (with_reducible refine alloc_hb rfl rfl ?_)
    | ((with_reducible refine store_hb rfl _ _ rfl w1.heap.size zeroH zeroH ?_ ?_ (heap_alloc_new w1 _) zeroH_size zeroH_size zeroH_one w1.heap.size (Nat.le_refl _) ?_); exact rfl; exact rfl; intro w2 hg2 hb2; have hB2 := (balloc hb1 (.cells zeroH 81)).trans (hb2.mono hb1.size)))
  go_ret2
  exact ⟨rfl, hB2⟩
set_option maxHeartbeats 1600000 in
theorem implWBW_yes (N M S n m s L p q : Nat) (l : Int) (xs : List Int) (C : HCtx N M S n m s xs L ((p : Int), (q : Int), l)) (hp : p < S) (hq : q < S) (a : Option Addr) (b len cap : Nat) (w : World) (hv : HxV w) (hn : xs.length = len) (h : Rd w a b 0 xs) (hb0 : len = 0 ∨ b < w.heap.size) (hF : fullBd n m xs = true) :
    Calls Tryd.prog 28 #[.int .i64 n, .int .i64 m, .slice a len cap] w (OutWBW w (winW N M p) true) := by
  have hA : allB 1 2 xs = true := by simp only [fullBd, Bool.and_eq_true] at hF; exact hF.2
  have hl := C.hl
  have hs := C.hs
  have HG := Lib.hid (fullBoardOf_yes n m s xs a b len cap w hn h hb0 C.h1 C.h2 C.hnm C.hs (by omega) hA)
  have hsz := hbL_size n m xs (by omega)
  have hone := hbL_one n m xs
  have hnb : n ≤ 30 := by have := C.hnm; have := Nat.le_mul_of_pos_right n (show 0 < m from C.h2); omega
  have hmb : m ≤ 30 := by have := C.hnm; have := Nat.le_mul_of_pos_left m (show 0 < n from C.h1); omega
  have HR := Lib.hid (fun w => withRim_any N M n m C.hN C.hM hnb hmb xs w)
  have HW := Lib.hid (fun g b w' (hb : Below w.heap.size w w') hR => rimWalk_any N M S g b n m s L _ xs C w' (hxv_later hv hb) hR)
  have HDL := Lib.hid (hdl_len (n := (N : Int)) (m := (M : Int)) (own := hown n m xs) (L + 1))
  have HDA := Lib.hid (hdl_last C.hL)
  have HLB := C.hLb
  have hSb := C.hS
  have hM1 : 1 ≤ M := by have := C.hM; omega
  have hN1 : 1 ≤ N := by have := C.hN; omega
  have hNb : N ≤ 40 := by have := C.hN; omega
  have I := hctx_inv C L _ C.hL
  have hpr : p / M ≤ N - 1 := by
    have := I.ga.2
    simp only at this
    rw [← Int.natCast_ediv] at this
    omega
  have hqr : q / M ≤ N - 1 := by
    have := I.gb.2
    simp only at this
    rw [← Int.natCast_ediv] at this
    omega
  have hlast : q / M = N - 1 → p / M = N - 1 := fun h => by
    have e : (N : Int) = (n : Int) + 2 := by have := C.hN; omega
    have e' : (M : Int) = (m : Int) + 2 := by have := C.hM; omega
    have hz := C.hz
    rw [e, e'] at I hz
    have := hlast (by have := C.h1; omega) (by have := C.h2; omega) I hz (by
      simp only
      rw [← e', ← Int.natCast_ediv, h]
      omega)
    simp only at this
    rw [← e', ← Int.natCast_ediv] at this
    omega
  have hWV : winW N M p = if p / M = N - 1 then 1 else 2 := by
    rw [winW, ← Int.natCast_ediv]
    by_cases h : p / M = N - 1
    · rw [if_pos h, if_pos (by omega)]
    · rw [if_neg h, if_neg (by omega)]
  -- the greater one of both places lies in the last row exactly if the first one does
  obtain ⟨mx, hmx, hmxS, hmr⟩ : ∃ mx : Nat, (if p ≤ q then q else p) = mx ∧ mx < S ∧ (mx / M = N - 1 ↔ p / M = N - 1) := by
    by_cases h : p ≤ q
    · refine ⟨q, if_pos h, hq, hlast, fun e => ?_⟩
      have := Nat.div_le_div_right (c := M) h
      omega
    · exact ⟨p, if_neg h, hp, Iff.rfl⟩
  have hmax : max (p : Int) (q : Int) = (mx : Int) := by
    rw [Int.max_def, ← hmx]
    by_cases h : p ≤ q
    · rw [if_pos h, if_pos (by omega)]
    · rw [if_neg h, if_neg (by omega)]
  obtain ⟨mr, hmr2⟩ : ∃ mr : Nat, mx / M = mr := ⟨_, rfl⟩
  have hmrS : mr ≤ 1000 := by have := Nat.div_le_self mx M; omega
  have HRW : Hid (∀ w, Calls Tryd.prog 74 #[.agg #[.int .i64 N, .int .i64 M], .int .i64 (max (p : Int) (q : Int))] w fun e w' => e = .returned (.int .i64 mr) ∧ Below w.heap.size w w') := Lib.hid (fun w => by rw [hmax]; exact hxRow_any N M mx mr hM1 hmr2.symm (by omega) w)
  rw [hmr2] at hmr
  have HMR := Lib.hid hmr
  have HWV := Lib.hid hWV
  have HMX := Lib.hid hmx
  obtain ⟨bd, hbd⟩ : ∃ bd, bd = (hbL n m xs).toArray := ⟨_, rfl⟩
  rw [← hbd] at HG HR hsz hone
  clear h hn hF hb0 C hv hA hl hs hbd I hlast hWV hmr hpr hqr hmx hmax hmr2
  generalize hdl (N : Int) M (hown n m xs) (L + 1) = D at HW HDA HDL
  go_enter Tryd.func28, Tryd.ntmps28
  go_wp2_with fail
  refine HG.out.mono ?_
  rintro e w1 ⟨rfl, hb1⟩
  go_wp2_with (first
    | (with_reducible refine alloc_hb rfl rfl ?_)
    | ((with_reducible refine store_hb rfl _ _ rfl w1.heap.size bd zeroH ?_ ?_ (heap_alloc_new w1 _) zeroH_size hsz hone w1.heap.size (Nat.le_refl _) ?_); exact rfl; exact rfl; intro w2 hg2 hb2; have hB2 := (balloc hb1 (.cells zeroH 81)).trans (hb2.mono hb1.size))
    | ((with_reducible refine load_blk blkHex ?_ _ rfl w1.heap.size ?_ bd hg2 hsz ?_); exact rfl; exact rfl; simp only [Act.put, List.setIfInBounds_toArray, List.set_cons_zero, List.set_cons_succ]))
  refine (HR.out _).mono ?_
  rintro e w3 ⟨g, b, rfl, hR, hb3⟩
  have hB3 := bnext hB2 hb3
  clear hg2 hb2 hb3 hb1
  go_wp2_with (first
    | ((with_reducible refine alloc_blk rm0 run_alloc_rim rfl rfl ?_); (try simp only [Act.put, List.setIfInBounds_toArray, List.set_cons_zero, List.set_cons_succ]))
    | ((with_reducible refine store_blk blkRim rfl _ _ rfl w3.heap.size (rimA N M g b) rm0 ?_ ?_ (heap_alloc_new w3 _) rfl rfl (rimA_one _ _ _ _) w3.heap.size (Nat.le_refl _) ?_); exact rfl; exact rfl; intro w4 hg4 hb4 hk4 hs4; have hb34 := (balloc (Below.refl w3.heap.size w3) (.cells rm0 91)).trans hb4)
    | ((with_reducible refine load_blk blkRim ?_ _ rfl w3.heap.size ?_ (rimA N M g b) hg4 rfl ?_); exact rfl; exact rfl; simp only [Act.put, List.setIfInBounds_toArray, List.set_cons_zero, List.set_cons_succ]))
  have hR4 := rimB_now hR hb34
  have hB4 := bnext hB3 hb34
  have hz4 : w3.heap.size < w4.heap.size := (Array.getElem?_eq_some_iff.1 hg4).1
  clear hk4 hs4 hb4
  refine (HW.out g b _ hB4 hR4).mono ?_
  rintro e w5 ⟨v, rfl, hpv, hb5⟩
  obtain ⟨pa, pc, pb, rfl, hpd⟩ := pair_shape hpv
  rw [HDL.out]
  have hB5 := bnext hB4 hb5
  obtain ⟨rfl, hpb, k0, k1⟩ := hpd L (by rw [HDL.out]; exact Nat.lt_succ_self _)
  rw [HDA.out] at k0 k1
  have hg5 := (hb5.block w3.heap.size hz4).trans hg4
  have q0 := blk_cell hg5 0 (.int .i64 N) rfl
  have q1 := blk_cell hg5 1 (.int .i64 M) rfl
  have hz5 : w3.heap.size < w5.heap.size := by have := hb5.size; omega
  have hLi : ((L + 1 : Nat) : Int) - 1 = (L : Int) := by omega
  clear hR hR4 hb34 hpd hg4 hpv hb5 hB3 hB4
  go_wp2_with fail
  have hB6 := balloc hB5 (.cells #[.int .i64 p, .int .i64 q] 94)
  have hg6 := alloc_keep (.cells #[.int .i64 p, .int .i64 q] 94) hg5
  have hp6 := heap_alloc_new w5 (.cells #[.int .i64 p, .int .i64 q] 94)
  have eN : IntKind.i64.wrap ((N : Int) - 1) = (N : Int) - 1 := IntWalk.i64_in _ ⟨by omega, by omega⟩
  generalize w5.alloc (.cells #[.int .i64 p, .int .i64 q] 94) = w6 at hB6 hg6 hp6 ⊢
  clear k0 k1 q0 q1 hB5 hg5 hLi
  refine wp_region_below (by kernel_rfl) (by kernel_rfl) ?_
  intro ι hne f hbf hcl
  have m1 : ∀ t, (f t).cell? ⟨w3.heap.size, 0, none⟩ = some (.int .i64 N) := fun t => blk_cell (((hbf t).block _ (Array.getElem?_eq_some_iff.1 hg6).1).trans hg6) 0 _ rfl
  have m2 : ∀ t, (f t).cell? ⟨w3.heap.size, 1, none⟩ = some (.int .i64 M) := fun t => blk_cell (((hbf t).block _ (Array.getElem?_eq_some_iff.1 hg6).1).trans hg6) 1 _ rfl
  have m3 : ∀ t, (f t).cell? ⟨w5.heap.size, 0, none⟩ = some (.int .i64 p) := fun t => blk_cell (((hbf t).block _ (Array.getElem?_eq_some_iff.1 hp6).1).trans hp6) 0 _ rfl
  have m4 : ∀ t, (f t).cell? ⟨w5.heap.size, 1, none⟩ = some (.int .i64 q) := fun t => blk_cell (((hbf t).block _ (Array.getElem?_eq_some_iff.1 hp6).1).trans hp6) 1 _ rfl
  repeat (go_big_quiet_step (first | (go_at_call 74; with_reducible refine (HRW.out _).mono ?_; rintro e w' ⟨rfl, hb⟩; exact ⟨rfl, hcl _ _ hb⟩)))
  refine wpQuiet_nil ?_
  rintro _ ⟨t, rfl⟩
  have hB7 := hB6.trans ((hbf t).mono hB6.size)
  clear m1 m2 m3 m4 hcl hbf hB6 hg6 hp6 eN
  generalize f t = w7 at hB7 ⊢
  clear f hne
  (try clear t)
  by_cases hre : mr = N - 1
  · have hb1 : ((mr : Int) == (N : Int) - 1) = true := by simp; omega
    have HV : Hid (winW N M p = 1) := Lib.hid (by rw [HWV.out, if_pos (HMR.out.1 hre)])
    clear hre
    go_wp2_with fail
    go_ret2
    exact ⟨ret_wbw HV.out.symm, hB7⟩
  · have hb1 : ((mr : Int) == (N : Int) - 1) = false := by simp; omega
    have HV : Hid (winW N M p = 2) := Lib.hid (by rw [HWV.out, if_neg (fun e => hre (HMR.out.2 e))])
    clear hre
    go_wp2_with fail
    go_ret2
    exact ⟨ret_wbw HV.out.symm, hB7⟩
end Go.Proofs.YtcahecohjmahaaaDoor
