import Derived.Test.YtcahecohjmahaaaDoorNc
namespace Go.Proofs.YtcahecohjmahaaaDoor
open Go.RowKit
set_option maxRecDepth 4000
def OutLabelsText (w : World) (x : ByteArray) (ok : Bool) (e : Ending) (w' : World) : Prop := e = .returned (.tuple #[.string x, .bool ok]) ∧ Below w.heap.size w w'
def valLText (n : Int) (xs : List Int) : ByteArray := ⟨(if labB n xs then hdL n.toNat ++ txL xs (Pr.cnt n.toNat) else []).toArray⟩
theorem ret_lsv {x y : ByteArray} {b : Bool} (h : y = x) (hb : b = true) : Ending.returned (.tuple #[.string x, .bool true]) = .returned (.tuple #[.string y, .bool b]) := by rw [h, hb]
theorem ret_lsn {y : ByteArray} {b : Bool} (h : y = ⟨#[]⟩) (hb : b = false) : Ending.returned (.tuple #[.string ⟨#[]⟩, .bool false]) = .returned (.tuple #[.string y, .bool b]) := by rw [h, hb]
theorem nlab_nat {n : Int} {xs : List Int} (h : labB n xs = true) : ∃ m : Nat, n = m ∧ 1 ≤ m ∧ m ≤ 8 ∧ xs.length = Pr.cnt m ∧ allB 0 2 xs = true := by
  have h' := h
  simp only [labB, decide_eq_true_eq] at h'
  obtain ⟨a, b, c, d⟩ := h'
  obtain ⟨m, rfl⟩ := Int.eq_ofNat_of_zero_le (show 0 ≤ n by omega)
  exact ⟨m, rfl, by omega, by omega, c, d⟩
set_option maxHeartbeats 800000 in
theorem specLabelsText (n : Int) (xs : List Int) (a : Option Addr) (b len cap : Nat) (w : World) (hn : xs.length = len) (h : Rd w a b 0 xs) (hb0 : len = 0 ∨ b < w.heap.size) :
    Calls Tryd.prog 33 #[.int .i64 n, .slice a len cap] w (OutLabelsText w (valLText n xs) (labB n xs)) := by
  have HG := Lib.hid (meLabels_any n xs a b 0 len cap w hn h)
  cases hB : labB n xs
  · have HV : Hid (valLText n xs = ⟨#[]⟩) := Lib.hid (by simp [valLText, hB])
    rw [hB] at HG
    clear h hb0 hB
    go_enter Tryd.func33, Tryd.ntmps33
    go_wp2_with fail
    refine HG.out.mono ?_
    rintro e w1 ⟨rfl, rfl⟩
    go_wp2_with fail
    go_ret2
    exact ⟨ret_lsn HV.out rfl, Below.refl _ _⟩
  · have HV0 : Hid (valLText n xs = ⟨(hdL n.toNat ++ txL xs (Pr.cnt n.toNat)).toArray⟩) := Lib.hid (by simp [valLText, hB])
    rw [hB] at HG
    obtain ⟨n, rfl, h1, h2, hl, hA⟩ := nlab_nat hB
    rw [Int.toNat_natCast] at HV0
    have HT := Lib.hid (meText_any n xs a b len cap w h1 h2 hn (by omega) h hb0 hA)
    clear h hb0 hB hn hl hA
    go_enter Tryd.func33, Tryd.ntmps33
    go_wp2_with fail
    refine HG.out.mono ?_
    rintro e w1 ⟨rfl, rfl⟩
    go_wp2_with fail
    refine HT.out.mono ?_
    rintro e w2 ⟨rfl, hb2⟩
    go_wp2_with fail
    go_ret2
    exact ⟨ret_lsv HV0.out rfl, hb2⟩
theorem blkLab : Blk 100 46 := ⟨.inl ⟨_, Tryd.underlying100⟩, by kernel_rfl⟩
set_option maxHeartbeats 1600000 in
theorem implLabelsText (n : Int) (xs : List Int) (a : Option Addr) (b len cap : Nat) (w : World) (hn : xs.length = len) (hsm : len ≤ 1048576) (h : Rd w a b 0 xs) (hb0 : len = 0 ∨ b < w.heap.size) :
    Calls Tryd.prog 34 #[.int .i64 n, .slice a len cap] w (OutLabelsText w (valLText n xs) (labB n xs)) := by
  have HH := labelledOf_any n xs a b len cap w hn hsm h hb0
  cases hB : labB n xs
  · have HV : Hid (valLText n xs = ⟨#[]⟩) := Lib.hid (by simp [valLText, hB])
    rw [hB] at HH
    simp only [Bool.false_eq_true, if_false] at HH
    replace HH := Lib.hid HH
    clear h hb0 hB
    go_enter Tryd.func34, Tryd.ntmps34
    go_wp2_with fail
    refine HH.out.mono ?_
    rintro e w2 ⟨rfl, hB2⟩
    go_wp2_with (first
      | (with_reducible refine alloc_lab rfl rfl ?_)
      | ((with_reducible refine store_blk blkLab rfl _ _ rfl w2.heap.size zeroA zeroA ?_ ?_ ?_ zeroA_size zeroA_size zeroA_one w2.heap.size (Nat.le_refl _) ?_); exact rfl; exact rfl; exact heap_alloc_new _ _; intro w3 hg3 hb3 hk3 hs3; have hB3 := bnext hB2 ((balloc (Below.refl w2.heap.size w2) (.cells zeroA 100)).trans hb3)))
    go_ret2
    exact ⟨ret_lsn HV.out rfl, hB3⟩
  · have HV0 : Hid (valLText n xs = ⟨(hdL n.toNat ++ txL xs (Pr.cnt n.toNat)).toArray⟩) := Lib.hid (by simp [valLText, hB])
    rw [hB] at HH
    simp only [if_true] at HH
    obtain ⟨n, rfl, h1, h2, hl, hA⟩ := nlab_nat hB
    rw [Int.toNat_natCast] at HV0 HH
    replace HH := Lib.hid HH
    have hcl := (Pr.cnt_le n (by omega)).1
    have HT := Lib.hid (fun w' => labText_any n xs w' h1 h2 hl hA)
    have hsz := labL_size n xs (by omega)
    have hone := labL_one n xs
    clear h hb0 hB hn hl hA hcl
    go_enter Tryd.func34, Tryd.ntmps34
    go_wp2_with fail
    refine HH.out.mono ?_
    rintro e w2 ⟨rfl, hB2⟩
    go_wp2_with (first
      | (with_reducible refine alloc_lab rfl rfl ?_)
      | ((with_reducible refine store_blk blkLab rfl _ _ rfl w2.heap.size (labL n xs).toArray zeroA ?_ ?_ ?_ zeroA_size hsz hone w2.heap.size (Nat.le_refl _) ?_); exact rfl; exact rfl; exact heap_alloc_new _ _; intro w3 hg3 hb3 hk3 hs3; have hB3 := bnext hB2 ((balloc (Below.refl w2.heap.size w2) (.cells zeroA 100)).trans hb3))
      | ((with_reducible refine load_blk blkLab ?_ _ rfl w2.heap.size ?_ _ hg3 hsz ?_); exact rfl; exact rfl; simp only [Act.put, List.setIfInBounds_toArray, List.set_cons_zero, List.set_cons_succ]))
    refine (HT.out w3).mono ?_
    rintro e w4 ⟨rfl, hb4⟩
    go_wp2_with fail
    go_ret2
    exact ⟨ret_lsv HV0.out rfl, bnext hB3 hb4⟩
set_option maxHeartbeats 800000 in
theorem lawOf_LabelsText (n : Int) (a : Option Addr) (len cap : Nat) (zs : List Int) (w : World) (hrow : IsRow w a len cap zs) (x : ByteArray) (ok : Bool)
    (hs : ∀ a' b' cap' w', len ≤ 1048576 → Rd w' a' b' 0 (zs.take len) → (len = 0 ∨ b' < w'.heap.size) → Calls Tryd.prog 33 #[.int .i64 n, .slice a' len cap'] w' (OutLabelsText w' x ok))
    (hi : ∀ a' b' cap' w', len ≤ 1048576 → Rd w' a' b' 0 (zs.take len) → (len = 0 ∨ b' < w'.heap.size) → Calls Tryd.prog 34 #[.int .i64 n, .slice a' len cap'] w' (OutLabelsText w' x ok)) :
    Calls Tryd.prog 10 #[.int .i64 n, .slice a len cap] w fun e w' => e = .returned (.bool true) ∧ Below w.heap.size w w' := by
  obtain ⟨hlen, b, off, hr, hbb⟩ := isRow_rd hrow
  generalize zs.take len = xs at hlen hr hs hi
  have hm := hr.1
  unfold maxLen at hm
  rw [hlen] at hm
  have HR := Lib.hid hr
  have HL := Lib.hid hlen
  have HS := Lib.hid hs
  have HI := Lib.hid hi
  clear hr hrow hlen hs hi
  by_cases hbig : (1048576 : Int) < (len : Int)
  · go_enter Tryd.func10, Tryd.ntmps10
    go_wp2_with fail
    go_ret
    exact ⟨rfl, Below.refl _ _⟩
  · have hsm : len ≤ 1048576 := by omega
    have hok : (ok != ok) = false := by simp
    have hat : (x.toList == x.toList) = true := by simp
    go_enter Tryd.func10, Tryd.ntmps10
    go_wp2_with fail
    refine (toIntS_any xs a b off len cap w HL.out HR.out hbb hsm).mono ?_
    rintro e w1 ⟨v1, rfl, ho1, hb1⟩
    obtain ⟨-, a1, c1, b1, rfl, hx1, hr1⟩ := own_shape ho1
    have hbl1 : len = 0 ∨ b1 < w1.heap.size := by
      rcases hx1 with h | h
      · left
        rcases Nat.eq_zero_or_pos xs.length with h0 | h0
        · rw [← HL.out]; exact h0
        · have := (hr1.2 0 h0).1; rw [h] at this; cases this
      · exact .inr (own_lt ho1 b1 (by rw [h]; rfl))
    go_wp2_with fail
    rw [HL.out]
    refine (HS.out a1 b1 c1 w1 hsm hr1 hbl1).mono ?_
    rintro e w2 ⟨rfl, hb2⟩
    have hB2 := bnext hb1 hb2
    have hR2 : Rd w2 a b off xs := by
      refine ⟨HR.out.1, fun j hj => ⟨(HR.out.2 j hj).1, ?_⟩⟩
      rcases hbb with h | h
      · rw [HL.out, h] at hj; exact absurd hj (Nat.not_lt_zero _)
      · exact (hB2.cell h).trans (HR.out.2 j hj).2
    have hbb2 : len = 0 ∨ b < w2.heap.size := by
      rcases hbb with h | h
      · exact .inl h
      · exact .inr (by have := hB2.size; omega)
    have HR2 := Lib.hid hR2
    clear hR2 ho1 hr1 hb1 hb2 hbl1
    go_wp2_with fail
    refine (toIntS_any xs a b off len cap w2 HL.out HR2.out hbb2 hsm).mono ?_
    rintro e w3 ⟨v3, rfl, ho3, hb3⟩
    obtain ⟨-, a3, c3, b3, rfl, hx3, hr3⟩ := own_shape ho3
    have hbl3 : len = 0 ∨ b3 < w3.heap.size := by
      rcases hx3 with h | h
      · left
        rcases Nat.eq_zero_or_pos xs.length with h0 | h0
        · rw [← HL.out]; exact h0
        · have := (hr3.2 0 h0).1; rw [h] at this; cases this
      · exact .inr (own_lt ho3 b3 (by rw [h]; rfl))
    go_wp2_with fail
    rw [HL.out]
    refine (HI.out a3 b3 c3 w3 hsm hr3 hbl3).mono ?_
    rintro e w4 ⟨rfl, hb4⟩
    have hB4 := bnext (bnext hB2 hb3) hb4
    have ho4 := own_now ho3 hb4
    obtain ⟨-, a3', c3', b3', hv, hx3', hr4⟩ := own_shape ho4
    simp only [Value.slice.injEq] at hv
    obtain ⟨rfl, -, rfl⟩ := hv
    have hR4 : Rd w4 a b off xs := by
      refine ⟨HR.out.1, fun j hj => ⟨(HR.out.2 j hj).1, ?_⟩⟩
      rcases hbb with h | h
      · rw [HL.out, h] at hj; exact absurd hj (Nat.not_lt_zero _)
      · exact (hB4.cell h).trans (HR.out.2 j hj).2
    have hbb4 : len = 0 ∨ b < w4.heap.size := by
      rcases hbb with h | h
      · exact .inl h
      · exact .inr (by have := hB4.size; omega)
    have HR4 := Lib.hid hR4
    clear hR4 ho3 hr3 hb3 hb4 hbl3
    go_wp2_with fail
    refine (toIntS_any xs a b off len cap w4 HL.out HR4.out hbb4 hsm).mono ?_
    rintro e w5 ⟨v5, rfl, ho5, hb5⟩
    obtain ⟨-, a5, c5, b5, rfl, hx5, hr5⟩ := own_shape ho5
    have hr45 : Rd w5 a3 b3' 0 xs := hr4.below hb5 (by
      rcases hx3' with h | h
      · exact .inl h
      · exact .inr (own_lt ho4 b3' (by rw [h]; rfl)))
    have hB5 := bnext hB4 hb5
    go_wp2_with fail
    refine (eqIntS_same xs a3 a5 b3' 0 b5 0 _ _ c3 c5 w5 HL.out rfl hr45 hr5).mono ?_
    rintro e w6 ⟨rfl, hs6⟩
    have hB6 := below_same hB5 hs6
    go_wp2_with fail
    go_ret
    exact ⟨rfl, hB6⟩
theorem law_LabelsText (n : Int) (a : Option Addr) (len cap : Nat) (zs : List Int) (w : World) (_ : (Lit.int .i64 n).wf = true) (hrow : IsRow w a len cap zs) :
    Calls Tryd.prog 10 #[.int .i64 n, .slice a len cap] w fun e w' => e = .returned (.bool true) ∧ Below w.heap.size w w' :=
  lawOf_LabelsText n a len cap zs w hrow _ _ (fun a' b' cap' w' _ hr hb => specLabelsText n _ a' b' len cap' w' (isRow_rd hrow).1 hr hb) (fun a' b' cap' w' hsm hr hb => implLabelsText n _ a' b' len cap' w' (isRow_rd hrow).1 hsm hr hb)
end Go.Proofs.YtcahecohjmahaaaDoor
