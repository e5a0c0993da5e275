import Derived.Test.YtcahecohjmahaaaDoorNb
namespace Go.Proofs.YtcahecohjmahaaaDoor
open Go.RowKit
set_option maxRecDepth 4000
theorem nlabL_at (n : Nat) (xs : List Int) (k : Nat) (hk : k < xs.length) : (labL n xs).toArray[1 + k]? = some (.int .i64 (xs.getD k 0)) := by
  rw [List.getElem?_toArray, labL, show 1 + k = k + 1 by omega, List.getElem?_cons_succ, List.getElem?_append_left (by simpa using hk)]
  simp [List.getD, hk]
theorem nidx3 (a b c : Int) (w : World) : (Instr.index 160 (.agg #[.int .i64 a, .int .i64 b, .int .i64 c]) (.int .i64 2)).run Tryd.prog w = .ok (.int .i64 c) w := by kernel_rfl
theorem writeCol (B b : Nat) (l : List UInt8) (w : World) (h : BldF w B b l) (hlen : l.length ≤ 1000) (hBw : B ≤ w.heap.size) :
    Calls Tryd.prog 131 #[.pointer (some ⟨b, 0, none⟩), .int .u8 58] w fun e w' => e = .returned .nilIface ∧ BldF w' B b (l ++ [58]) ∧ Below B w w' ∧ Lib.OthersKept 5 (some b) w w' :=
  writeByteK B b l 58 w h hlen hBw
set_option maxHeartbeats 1600000 in
theorem labText_any (n : Nat) (xs : List Int) (w : World) (h1 : 1 ≤ n) (h2 : n ≤ 8) (hl : xs.length = Pr.cnt n) (hA : allB 0 2 xs = true) :
    Calls Tryd.prog 80 #[.agg (labL n xs).toArray] w fun e w' => e = .returned (.string ⟨(hdL n ++ txL xs (Pr.cnt n)).toArray⟩) ∧ Below w.heap.size w w' := by
  have hB0 := balloc (Below.refl w.heap.size w) (.cells (labL n xs).toArray 100)
  have hg0 := heap_alloc_new w (.cells (labL n xs).toArray 100)
  have hs0 : (w.alloc (.cells (labL n xs).toArray 100)).heap.size = w.heap.size + 1 := by simp
  have HF := Lib.IsBuilderF.of (Lib.fresh_isBuilder 153 5 (w.alloc (.cells (labL n xs).toArray 100)))
  have hB1 := balloc hB0 (.cells #[.pointer none, .slice none 0 0] 153)
  have hg1 := (Below.heap_alloc (w.alloc (.cells (labL n xs).toArray 100)) (.cells #[.pointer none, .slice none 0 0] 153) w.heap.size (by omega)).trans hg0
  rw [hs0] at HF
  have hs1 : ((w.alloc (.cells (labL n xs).toArray 100)).alloc (.cells #[.pointer none, .slice none 0 0] 153)).heap.size = w.heap.size + 2 := by simp
  have HL := Lib.hid hl
  have HA := Lib.hid hA
  have hcl := (Pr.cnt_le n (by omega)).1
  have HIT := Lib.hid (fun w => itoa_any (n : Int) (by omega) (by omega) w)
  have HSZ := Lib.hid (fun w => size_any n h2 w)
  have HSP := Lib.hid (fun (i : Nat) (hi : i < 45) w => spotAt_any n i h1 h2 hi w)
  have HHD : Hid (([] ++ [dgt (n : Int)]) ++ [58] = hdL n ++ txL xs 0) := Lib.hid rfl
  have HH2 : Hid ((hdL n).length = 2) := Lib.hid rfl
  have q0' : (labL n xs).toArray[0]? = some (.int .i64 n) := by simp [labL]
  clear hg0 hB0 hl hA hs0
  go_enter Tryd.func80, Tryd.ntmps80
  go_wp2_with (with_reducible refine alloc_blk #[.pointer none, .slice none 0 0] (by intro w; kernel_rfl) rfl rfl ?_)
  generalize (w.alloc (.cells (labL n xs).toArray 100)).alloc (.cells #[.pointer none, .slice none 0 0] 153) = w1 at HF hB1 hg1 hs1 ⊢
  refine (HIT.out _).mono ?_
  rintro e w' ⟨rfl, rfl⟩
  go_wp2_with fail
  refine (writeStrK (w.heap.size + 1) (w.heap.size + 1) [] [dgt (n : Int)] w1 HF (by simp) (by omega)).mono ?_
  rintro e w2 ⟨rfl, hF2, hb2, -⟩
  have hg2 := (hb2.block w.heap.size (by omega)).trans hg1
  have hB2 := hB1.trans (hb2.mono (by omega))
  have hz2 := hb2.size
  clear hg1 hb2 hB1 HF
  go_wp2_with fail
  refine (writeCol _ _ _ _ hF2 (by simp) (by omega)).mono ?_
  rintro e w3 ⟨rfl, hF3, hb3, -⟩
  have hg3 := (hb3.block w.heap.size (by omega)).trans hg2
  have hB3 := hB2.trans (hb3.mono (by omega))
  have hz3 := hb3.size
  rw [HHD.out] at hF3
  have q0 := blk_cell hg3 0 _ q0'
  clear hg2 hb3 hB2 hF2
  go_wp2_with fail
  refine (HSZ.out _).mono ?_
  rintro e w4 ⟨rfl, hb4⟩
  have hF4 := bld_now hF3 hb4
  have hg4 := (hb4.block w.heap.size (by omega)).trans hg3
  have hB4 := bnext hB3 hb4
  clear hF3 hg3 hb4 hB3 q0
  generalize hC : Pr.cnt n = C at hcl HL ⊢
  have HC := Lib.hid hC
  clear hC
  go_wp2_with fail
  go_loopw [14] (fun v14 wr => ∃ k : Nat, k ≤ C ∧ v14 = .int .i64 k ∧ BldF wr (w.heap.size + 1) (w.heap.size + 1) (hdL n ++ txL xs k) ∧ wr.heap[w.heap.size]? = some (.cells (labL n xs).toArray 100 (0, 0)) ∧ Below w.heap.size w wr) (fun v14 _ => C - (intOf v14).toNat)
  case atStart => exact ⟨0, Nat.zero_le _, rfl, hF4, hg4, hB4⟩
  case round =>
    clear hF4 hg4 hB4
    obtain ⟨k, hk, rfl, hF, hg, hb⟩ := hrel
    by_cases hlt : k < C
    · have c := blk_cell hg (1 + k) _ (nlabL_at n xs k (by rw [HL.out]; exact hlt))
      have q0 := blk_cell hg 0 _ q0'
      obtain ⟨l0, l2⟩ := allB_at HA.out k (by rw [HL.out]; exact hlt)
      have hki : (k : Int) < (C : Int) := by omega
      have hk45 : (k : Int) < 45 := by omega
      have hk45n : k < 45 := by omega
      have HT : Hid (txL xs (k + 1) = txL xs k ++ sepC k ++ [dgt (xs.getD k 0)]) := Lib.hid rfl
      have htl := txL_len xs k
      have hsl := sepC_len k
      generalize xs.getD k 0 = x at c l0 l2 HT
      have w1' : IntKind.i64.wrap (48 + x) = 48 + x := IntWalk.i64_in _ ⟨by omega, by omega⟩
      have w2' : wrap64 (48 + x) = 48 + x := IntWalk.wrap64_in _ ⟨by omega, by omega⟩
      have h3 : x = 0 ∨ x = 1 ∨ x = 2 := by omega
      have w3' : IntKind.u8.wrap (48 + x) = 48 + x := by rcases h3 with rfl | rfl | rfl <;> rfl
      clear h3
      have hTU : (hdL n ++ txL xs k).length ≤ 200 := by rw [List.length_append]; have := HH2.out; omega
      have HU : Hid (hdL n ++ txL xs (k + 1) = hdL n ++ txL xs k ++ sepC k ++ [dgt x]) := Lib.hid (by rw [HT.out]; simp only [List.append_assoc])
      generalize hdL n ++ txL xs k = t at HU hTU hF
      have hblt := bld_lt hF
      clear htl
      by_cases hk0 : 0 < k
      · have hk1 : (0 : Int) < (k : Int) := by omega
        have hix := nidx3
        go_wp2_with fail
        refine (HSP.out k hk45n wr).mono ?_
        rintro e' w5 ⟨rfl, hb5⟩
        have hF5 := bld_now hF hb5
        have hg5 := (hb5.block w.heap.size (by omega)).trans hg
        have hB5 := bnext hb hb5
        have c5 := (hb5.cell (p := ⟨w.heap.size, 1 + k, none⟩) (by show w.heap.size < _; omega)).trans c
        clear hF hg hb hb5 c q0
        by_cases hr0 : Pr.C k = 0
        · have e := Lib.hid (show sepC k = [47] by rw [sepC, if_pos ⟨hk0, hr0⟩])
          have hr1 : (((Pr.C k : Nat) : Int) == 0) = true := by rw [hr0]; rfl
          clear hr0 hk0
          generalize Pr.C k = ck at hr1 ⊢
          go_wp2_with fail
          refine (writeSep _ _ _ _ hF5 (by omega) (by have := bld_lt hF5; omega)).mono ?_
          rintro e' w6 ⟨rfl, hF6, hb6, -⟩
          have hg6 := (hb6.block w.heap.size (by omega)).trans hg5
          have hB6 := hB5.trans (hb6.mono (by omega))
          have c6 := (hb6.cell (p := ⟨w.heap.size, 1 + k, none⟩) (by show w.heap.size < _; omega)).trans c5
          clear hF5 hg5 hB5 hb6 c5
          go_wp2_with fail
          refine (writeDig x l0 l2 _ _ _ _ hF6 (by rw [List.length_append]; simp only [List.length_cons, List.length_nil]; omega) (by have := bld_lt hF6; omega)).mono ?_
          rintro e' w7 ⟨rfl, hF7, hb7, -⟩
          have hg7 := (hb7.block w.heap.size (by omega)).trans hg6
          have hB7 := hB6.trans (hb7.mono (by omega))
          go_wp2_with fail
          go_roundw
          case rel => exact ⟨k + 1, by omega, by go_num, by rw [HU.out, e.out]; exact hF7, hg7, hB7⟩
          case measure => simp [intOf]; omega
        · have e := Lib.hid (show sepC k = [] by rw [sepC, if_neg (fun h => hr0 h.2)])
          have hr1 : (((Pr.C k : Nat) : Int) == 0) = false := by simp; omega
          clear hr0 hk0
          generalize Pr.C k = ck at hr1 ⊢
          go_wp2_with fail
          refine (writeDig x l0 l2 _ _ _ _ hF5 (by omega) (by have := bld_lt hF5; omega)).mono ?_
          rintro e' w7 ⟨rfl, hF7, hb7, -⟩
          have hg7 := (hb7.block w.heap.size (by omega)).trans hg5
          have hB7 := hB5.trans (hb7.mono (by omega))
          go_wp2_with fail
          go_roundw
          case rel => exact ⟨k + 1, by omega, by go_num, by rw [HU.out, e.out, List.append_nil]; exact hF7, hg7, hB7⟩
          case measure => simp [intOf]; omega
      · have hk1 : ¬ (0 : Int) < (k : Int) := by omega
        have e := Lib.hid (show sepC k = [] by rw [sepC, if_neg (by omega)])
        go_wp2_with fail
        refine (writeDig x l0 l2 _ _ _ _ hF (by omega) (by have := bld_lt hF; omega)).mono ?_
        rintro e' w7 ⟨rfl, hF7, hb7, -⟩
        have hg7 := (hb7.block w.heap.size (by omega)).trans hg
        have hB7 := hb.trans (hb7.mono (by omega))
        go_wp2_with fail
        go_roundw
        case rel => exact ⟨k + 1, by omega, by go_num, by rw [HU.out, e.out, List.append_nil]; exact hF7, hg7, hB7⟩
        case measure => simp [intOf]; omega
    · have e : k = C := by omega
      have HK : Hid (hdL n ++ txL xs k = hdL n ++ txL xs (Pr.cnt n)) := Lib.hid (by rw [e, HC.out])
      have hkC : ¬ (k : Int) < (C : Int) := by omega
      clear e
      go_wp2_with fail
      refine (stringK _ _ _ _ hF (by have := bld_lt hF; omega)).mono ?_
      rintro e' w5 ⟨rfl, hb5⟩
      go_wp2_with fail
      go_ret
      exact ⟨by rw [← HK.out]; rfl, hb.trans (hb5.mono (by omega))⟩
end Go.Proofs.YtcahecohjmahaaaDoor
