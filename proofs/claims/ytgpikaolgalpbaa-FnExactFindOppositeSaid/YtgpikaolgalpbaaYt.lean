import Derived.Test.YtgpikaolgalpbaaYs
namespace Go.Proofs.Ytgpikaolgalpbaa
open Go.RowKit
set_option maxRecDepth 4000
/-- The sum of the steps. -/
def sT (xs : List Int) (ps : List (Int × Int)) : Int := (ps.map (stp xs)).sum
theorem sT_succ (xs : List Int) (ps : List (Int × Int)) (k : Nat) (hk : k < ps.length) : sT xs (ps.take (k + 1)) = sT xs (ps.take k) + stp xs (ps.getD k (0, 0)) := by
  unfold sT
  rw [List.take_add_one, List.map_append, List.sum_append, List.getElem?_eq_getElem hk, List.getD_eq_getElem?_getD, List.getElem?_eq_getElem hk]
  simp only [Option.toList_some, List.map_cons, List.map_nil, List.sum_cons, List.sum_nil, Int.add_zero, Option.getD_some]
theorem sT_bd (xs : List Int) (ps : List (Int × Int)) : -(ps.length : Int) ≤ sT xs ps ∧ sT xs ps ≤ ps.length := by
  induction ps with
  | nil => simp [sT]
  | cons p ps ih =>
    have e : sT xs (p :: ps) = stp xs p + sT xs ps := by simp [sT]
    have := st_bd (xs.getD p.1.toNat 0) (xs.getD p.2.toNat 0)
    rw [e, List.length_cons]
    unfold stp
    omega
theorem sT_tk (xs : List Int) (ps : List (Int × Int)) (k m : Nat) (hm : ps.length ≤ m) : -(m : Int) ≤ sT xs (ps.take k) ∧ sT xs (ps.take k) ≤ m := by
  have := sT_bd xs (ps.take k)
  rw [List.length_take] at this
  omega
set_option maxHeartbeats 1600000 in
theorem turns_any (n : Nat) (xs : List Int) (a : Option Addr) (b len cap : Nat) (w : World) (hn : xs.length = len) (h : Rd w a b 0 xs) (hb0 : len = 0 ∨ b < w.heap.size) (hL : sqB n xs = true) :
    Calls Try.prog 81 #[.agg (lqA n a len cap)] w fun e w' => e = .returned (.int .i64 (Int.tdiv (sT xs (sqPs n)) 4)) ∧ Below w.heap.size w w' := by
  obtain ⟨n', hnn, h1, h2, hl, hA⟩ := sqB_nat hL
  obtain rfl : n = n' := by omega
  clear hnn
  have HS : Hid (∀ W, Below w.heap.size w W → ∀ i j : Nat, i < len → j < len → Calls Try.prog 99 #[.agg (lqA n a len cap), .agg #[.int .i64 i, .int .i64 j]] W fun e w' => e = .returned (.int .i64 (stp xs ((i : Int), (j : Int)))) ∧ Below W.heap.size W w') :=
    Lib.hid (fun W hB i j hi hj => step_any n xs a b len cap i j W hn (h.later hn hb0 hB) (by have := hB.size; omega) hA hi hj)
  have HPT : Hid (∀ k, k < (sqPs n).length → ∃ i j : Nat, (sqPs n).getD k (0, 0) = ((i : Int), (j : Int)) ∧ i < len ∧ j < len) := Lib.hid (fun k hk => by
    obtain ⟨i, j, e, hi, hj⟩ := sqPs_pts n h2 k hk
    exact ⟨i, j, e, by omega, by omega⟩)
  have HPL : Hid ((sqPs n).length ≤ 32) := Lib.hid (by rw [sqPs_len]; omega)
  have HPS : Hid (als (bol n (8 * n)) (bol n (8 * n)).length = sqPs n) := Lib.hid rfl
  have HBL := Lib.hid (bol_len n (8 * n))
  have hg1 := heap_alloc_new w (.cells (lqA n a len cap) 69)
  have hB1 := balloc (Below.refl w.heap.size w) (.cells (lqA n a len cap) 69)
  have hz1 : (w.alloc (.cells (lqA n a len cap) 69)).heap.size = w.heap.size + 1 := by simp
  have q0 : (w.alloc (.cells (lqA n a len cap) 69)).cell? ⟨w.heap.size, 0, none⟩ = some (.int .i64 n) := cell_of_row _ _ _ _ _ (0, 0) hg1
  have q1 : (w.alloc (.cells (lqA n a len cap) 69)).cell? ⟨w.heap.size, 1, none⟩ = some (.iface 101 (.slice a len cap)) := cell_of_row _ _ _ _ _ (0, 0) hg1
  clear hL h hl hn hA hg1 hb0
  go_enter Try.func81, Try.ntmps81
  go_wp2_with fail
  generalize w.alloc (.cells (lqA n a len cap) 69) = w0 at hB1 hz1 q0 q1 ⊢
  go_wp2_with fail
  refine (sqBorder_any n h1 h2 _).mono ?_
  rintro e w1 ⟨v, rfl, ho1, hb1⟩
  obtain ⟨-, ba, bc, bb, rfl, hx, hrd⟩ := own_shape ho1
  have HX := Lib.hid (hx.imp_right fun h => own_lt ho1 bb (by rw [h]; rfl))
  have HRD := Lib.hid hrd
  have p0 := (hb1.cell (p := ⟨w.heap.size, 0, none⟩) (by show w.heap.size < _; omega)).trans q0
  have p1 := (hb1.cell (p := ⟨w.heap.size, 1, none⟩) (by show w.heap.size < _; omega)).trans q1
  have hB11 := bnext hB1 hb1
  have hz11 : w.heap.size < w1.heap.size := by have := hb1.size; omega
  clear hrd hx ho1 q0 q1 hb1 hB1 hz1
  go_wp2_with fail
  refine (pairsAlong_any (bol n (8 * n)) ba bb _ bc _ rfl HRD.out HX.out (by rw [HBL.out]; omega)).mono ?_
  rintro e w2 ⟨v, rfl, hp2, hb2⟩
  rw [HPS.out] at hp2
  obtain ⟨pa, pc, pb, rfl, hpr⟩ := pair_shape hp2
  have HPR := Lib.hid hpr
  have r0 := (hb2.cell (p := ⟨w.heap.size, 0, none⟩) hz11).trans p0
  have r1 := (hb2.cell (p := ⟨w.heap.size, 1, none⟩) hz11).trans p1
  have HB2 := Lib.hid (bnext hB11 hb2)
  have hz2 : w.heap.size < w2.heap.size := by have := hb2.size; omega
  clear hp2 hpr p0 p1 hb2 hB11 hz11 HRD HX HPS HBL
  generalize hq : sqPs n = ps at HPT HPL HPR ⊢
  have HQ := Lib.hid hq
  clear hq
  have HT := Lib.hid (fun k hk => sT_succ xs ps k hk)
  have HTB := Lib.hid (fun k => sT_tk xs ps k 32 HPL.out)
  have HTE : Hid (sT xs (ps.take ps.length) = sT xs ps) := Lib.hid (by rw [List.take_length])
  have hpl : ps.length ≤ 32 := HPL.out
  have HT0 : Hid (sT xs (ps.take 0) = 0) := Lib.hid (by simp [sT])
  go_wp2_with fail
  go_loopw [3, 11] (fun v3 v11 wr => ∃ k : Nat, k ≤ ps.length ∧ v11 = .int .i64 k ∧ v3 = .int .i64 (sT xs (ps.take k)) ∧ Below w2.heap.size w2 wr) (fun _ v11 _ => ps.length - (intOf v11).toNat)
  case atStart => exact ⟨0, Nat.zero_le _, rfl, by rw [HT0.out], Below.refl _ _⟩
  case round =>
    obtain ⟨k, hk, rfl, rfl, hb⟩ := hrel
    have htb := HTB.out k
    by_cases hlt : k < ps.length
    · obtain ⟨rfl, hbl, c0, c1⟩ := (HPR.out.later hb) k hlt
      have htk := HT.out k hlt
      obtain ⟨i, j, e, hi, hj⟩ := HPT.out k hlt
      rw [e] at c0 c1 htk
      simp only at c0 c1
      have hsb : -1 ≤ stp xs ((i : Int), (j : Int)) ∧ stp xs ((i : Int), (j : Int)) ≤ 1 := st_bd _ _
      have HSK := Lib.hid (fun W hB => HS.out W hB i j hi hj)
      have HTK := Lib.hid htk
      have HK1 := HTB.out (k + 1)
      rw [htk] at HK1
      generalize stp xs ((i : Int), (j : Int)) = s at hsb HSK HTK HK1
      generalize sT xs (ps.take k) = t at htb HTK HK1 ⊢
      have hki : (k : Int) < (ps.length : Int) := by omega
      have hzr : w.heap.size < wr.heap.size := by have := hb.size; omega
      have u0 := (hb.cell (p := ⟨w.heap.size, 0, none⟩) hz2).trans r0
      have u1 := (hb.cell (p := ⟨w.heap.size, 1, none⟩) hz2).trans r1
      have hbA := balloc (Below.refl wr.heap.size wr) (.cells #[.int .i64 i, .int .i64 j] 89)
      have v0 := (hbA.cell (p := ⟨w.heap.size, 0, none⟩) hzr).trans u0
      have v1 := (hbA.cell (p := ⟨w.heap.size, 1, none⟩) hzr).trans u1
      have HW := Lib.hid ((HB2.out.trans (hb.mono (by omega))).trans (hbA.mono (by omega)))
      have HW2 := Lib.hid (hb.trans (hbA.mono hb.size))
      clear htk e hi hj
      go_wp2_with fail
      refine (HSK.out _ HW.out).mono ?_
      rintro e w3 ⟨rfl, hb3⟩
      have hb4 := bnext HW2.out hb3
      clear hb3 c0 c1 u0 u1 v0 v1
      go_wp2_with fail
      go_roundw
      case rel => exact ⟨k + 1, by omega, by go_num, by rw [HTK.out], hb4⟩
      case measure => simp [intOf]; omega
    · have hk2 : k = ps.length := by omega
      have HTK : Hid (sT xs (ps.take k) = sT xs ps) := Lib.hid (by rw [hk2]; exact HTE.out)
      clear hk2
      generalize sT xs (ps.take k) = t at htb HTK ⊢
      go_wp2_with fail
      go_ret
      exact ⟨ret_int (by rw [HTK.out, HQ.out]), HB2.out.trans (hb.mono (by omega))⟩
end Go.Proofs.Ytgpikaolgalpbaa
