import Derived.Test.YtgloelhpnhofgaaR5
import Derived.Test.YtgloelhpnhofgaaZa
namespace Go.Proofs.Ytgloelhpnhofgaa
open Go.RowKit
set_option maxRecDepth 4000
set_option maxHeartbeats 1600000 in
theorem lawOf_FullCells (n : Int) (a : Option Addr) (len cap : Nat) (zs : List Int) (w : World) (hrow : IsRow w a len cap zs) (L : List Int) (ok : Bool) (hLen : L.length ≤ 1000)
    (hs : ∀ a' b' cap' w', len ≤ 1048576 → Rd w' a' b' 0 (zs.take len) → (len = 0 ∨ b' < w'.heap.size) → Calls Try.prog 46 #[.int .i64 n, .slice a' len cap'] w' (Gives w' 3 L ok))
    (hi : ∀ a' b' cap' w', len ≤ 1048576 → Rd w' a' b' 0 (zs.take len) → (len = 0 ∨ b' < w'.heap.size) → Calls Try.prog 47 #[.int .i64 n, .slice a' len cap'] w' (Gives w' 3 L ok)) :
    Calls Try.prog 14 #[.int .i64 n, .slice a len cap] w fun e w' => e = .returned (.bool true) ∧ Below w.heap.size w w' := by
  obtain ⟨hlen, b, off, hr, hbb⟩ := isRow_rd hrow
  generalize zs.take len = xs at hlen hr hs hi
  have hm := hr.1
  unfold maxLen at hm
  rw [hlen] at hm
  have HRD : Hid (∀ W, Below w.heap.size w W → Rd W a b off xs ∧ (len = 0 ∨ b < W.heap.size)) := by
    intro W hB
    refine ⟨⟨hr.1, fun j hj => ⟨(hr.2 j hj).1, ?_⟩⟩, ?_⟩
    · rcases hbb with h | h
      · rw [hlen, h] at hj; exact absurd hj (Nat.not_lt_zero _)
      · exact (hB.cell h).trans (hr.2 j hj).2
    · rcases hbb with h | h
      · exact .inl h
      · exact .inr (by have := hB.size; omega)
  have HL := Lib.hid hlen
  have HS := Lib.hid hs
  have HI := Lib.hid hi
  have HB : Hid (∀ (w0 : World) a0 b0 cap0, (a0 = none ∨ a0 = some (⟨b0, 0, none⟩ : Addr)) → Rd w0 a0 b0 0 xs → (∀ k, (Value.slice a0 xs.length cap0).ownBlock = some k → k < w0.heap.size) → len = 0 ∨ b0 < w0.heap.size) := by
    intro w0 a0 b0 cap0 hx hrd hlt
    rcases hx with h | h
    · left
      rcases Nat.eq_zero_or_pos xs.length with h0 | h0
      · rw [← hlen]; exact h0
      · have := (hrd.2 0 h0).1; rw [h] at this; cases this
    · exact .inr (hlt b0 (by rw [h]; rfl))
  clear hr hrow hlen hs hi
  by_cases hbig : (1048576 : Int) < (len : Int)
  · go_enter Try.func14, Try.ntmps14
    go_wp2_with fail
    go_ret
    exact ⟨rfl, Below.refl _ _⟩
  · have hsm : len ≤ 1048576 := by omega
    have hok : (ok != ok) = false := by simp
    go_enter Try.func14, Try.ntmps14
    go_wp2_with fail
    refine (toIntS_any xs a b off len cap w HL.out (HRD.out _ (Below.refl _ _)).1 (HRD.out _ (Below.refl _ _)).2 hsm).mono ?_
    rintro e w1 ⟨v1, rfl, ho1, hb1⟩
    obtain ⟨-, a1, c1, b1, rfl, hx1, hr1⟩ := own_shape ho1
    have hbl1 := HB.out w1 a1 b1 c1 hx1 hr1 (fun k hk => own_lt ho1 k hk)
    go_wp2_with fail
    rw [HL.out]
    refine (HS.out a1 b1 c1 w1 hsm hr1 hbl1).mono ?_
    rintro e w2 ⟨v0, rfl, ho0, hb2⟩
    obtain ⟨-, a0, c0, b0, rfl, hx0, hr0⟩ := own_shape ho0
    have hlt0 := own_lt ho0
    have hB2 := bnext hb1 hb2
    clear ho1 hr1 hb1 hb2 hbl1 hr0
    go_wp2_with fail
    refine (toIntS_any xs a b off len cap w2 HL.out (HRD.out _ hB2).1 (HRD.out _ hB2).2 hsm).mono ?_
    rintro e w3 ⟨v3, rfl, ho3, hb3⟩
    obtain ⟨-, a3, c3, b3, rfl, hx3, hr3⟩ := own_shape ho3
    have hbl3 := HB.out w3 a3 b3 c3 hx3 hr3 (fun k hk => own_lt ho3 k hk)
    have ho0_3 := own_now ho0 hb3
    have hB3 := bnext hB2 hb3
    have hlt3 := own_lt ho3
    clear ho0
    go_wp2_with fail
    rw [HL.out]
    refine (HI.out a3 b3 c3 w3 hsm hr3 hbl3).mono ?_
    rintro e w4 ⟨vg, rfl, hog, hb4⟩
    obtain ⟨-, ag, cg, bg, rfl, hxg, hrg⟩ := own_shape hog
    have ho0_4 := own_now ho0_3 hb4
    have ho3_4 := own_now ho3 hb4
    have hB4 := bnext hB3 hb4
    have hltg := own_lt hog
    obtain ⟨-, a0', c0', b0', hv, -, hr0_4⟩ := own_shape ho0_4
    simp only [Value.slice.injEq] at hv
    obtain ⟨rfl, -, rfl⟩ := hv
    clear ho3 hr3 hbl3 ho0_3
    go_wp2_with fail
    refine (eqIntS_same L ag a0 bg 0 b0' 0 _ _ cg c0 w4 rfl rfl hrg hr0_4).mono ?_
    rintro e w5 ⟨rfl, hs5⟩
    have hog5 := own_same hog hs5
    have ho0_5 := own_same ho0_4 hs5
    have ho3_5 := own_same ho3_4 hs5
    have hB5 := below_same hB4 hs5
    have hsz5 : w4.heap.size ≤ w5.heap.size := (hs5 0).size
    clear hog ho0_4 ho3_4 hB4 hrg hr0_4
    go_wp2_with fail
    refine (toIntS_any xs a b off len cap w5 HL.out (HRD.out _ hB5).1 (HRD.out _ hB5).2 hsm).mono ?_
    rintro e w6 ⟨v6, rfl, ho6, hb6⟩
    obtain ⟨-, a6, c6, b6, rfl, hx6, hr6⟩ := own_shape ho6
    have hog6 := own_now hog5 hb6
    have ho0_6 := own_now ho0_5 hb6
    have ho3_6 := own_now ho3_5 hb6
    have hB6 := bnext hB5 hb6
    obtain ⟨-, a3', c3', b3', hv, hx3', hr3_6⟩ := own_shape ho3_6
    simp only [Value.slice.injEq] at hv
    obtain ⟨rfl, -, rfl⟩ := hv
    clear hog5 ho0_5 ho3_5 hB5 ho6
    go_wp2_with fail
    refine (eqIntS_same xs a3 a6 b3' 0 b6 0 _ _ c3 c6 w6 HL.out rfl hr3_6 hr6).mono ?_
    rintro e w7 ⟨rfl, hs7⟩
    have hog7 := own_same hog6 hs7
    have ho0_7 := own_same ho0_6 hs7
    have ho3_7 := own_same ho3_6 hs7
    have hB7 := below_same hB6 hs7
    have hsz7 : w4.heap.size ≤ w7.heap.size := Nat.le_trans hsz5 (Nat.le_trans hb6.size (hs7 0).size)
    clear hog6 ho0_6 ho3_6 hB6 hr3_6 hr6
    rw [HL.out] at ho3_7
    go_wp2_with fail
    refine (markIntS_only _ xs a3 w2.heap.size _ c3 1 w7 ho3_7 (by omega) (by have := HL.out; omega)).mono ?_
    rintro e w8 ⟨rfl, ho3m, hb8, hk8⟩
    have h38 : w3.heap.size ≤ w4.heap.size := hb4.size
    have hne : ∀ k, (k < w2.heap.size ∨ w3.heap.size ≤ k) → w8.heap[k]? = w7.heap[k]? := fun k hk => by
      apply hk8
      rcases hx3 with h | h
      · exact .inl h
      · refine .inr ⟨b3, h, ?_⟩
        have h1 := hlt3 b3 (by rw [h]; rfl)
        have h2 := (ho3_7.lt b3 (by rw [h]; rfl)).1
        omega
    have hog8 := own_keep hog7 (fun k hk => hne k (.inr ((hog7.lt k hk).1)))
    have ho0_8 := own_keep ho0_7 (fun k hk => hne k (.inl (hlt0 k hk)))
    have hB8 := hB7.trans (hb8.mono hB2.size)
    have hsz8 : w4.heap.size ≤ w8.heap.size := Nat.le_trans hsz7 hb8.size
    obtain ⟨-, ag', cg', bg', hv, -, hrg8⟩ := own_shape hog8
    simp only [Value.slice.injEq] at hv
    obtain ⟨rfl, -, rfl⟩ := hv
    obtain ⟨-, a0'', c0'', b0'', hv, -, hr0_8⟩ := own_shape ho0_8
    simp only [Value.slice.injEq] at hv
    obtain ⟨rfl, -, rfl⟩ := hv
    clear hog7 ho0_7 ho3_7 hB7 hne hk8 ho3m
    go_wp2_with fail
    refine (eqIntS_same L ag a0 bg' 0 b0'' 0 _ _ cg c0 w8 rfl rfl hrg8 hr0_8).mono ?_
    rintro e w9 ⟨rfl, hs9⟩
    have hog9 := own_same hog8 hs9
    have ho0_9 := own_same ho0_8 hs9
    have hB9 := below_same hB8 hs9
    have hsz9 : w4.heap.size ≤ w9.heap.size := Nat.le_trans hsz8 (hs9 0).size
    clear hog8 ho0_8 hB8 hrg8 hr0_8
    go_wp2_with fail
    refine (markIntS_any _ L ag w3.heap.size _ cg 1 w9 hog9 (by omega) (by omega)).mono ?_
    rintro e w10 ⟨rfl, hogm, hb10⟩
    obtain ⟨-, ag'', cg'', bgm, hv, hxgm, hrm⟩ := own_shape hogm
    simp only [Value.slice.injEq] at hv
    obtain ⟨rfl, -, rfl⟩ := hv
    have hlm : (mkd 1 L.length L).length = L.length := mkd_len _ _ _ (Nat.le_refl _)
    have HLM := Lib.hid hlm
    have ho0_10 := own_later ho0_9 (fun k hk => Nat.lt_of_lt_of_le (hlt0 k hk) hb3.size) hb10
    have hB10 := hB9.trans (hb10.mono hB3.size)
    clear hlm hog9 ho0_9 hB9
    go_wp2_with fail
    refine (heldIntS_yes (mkd 1 L.length L) ag bgm 0 _ cg 1 w10 HLM.out hrm (by omega) (by rw [HLM.out]; omega) (fun j hj => mkd_all 1 L j (by rw [HLM.out] at hj; exact hj))).mono ?_
    rintro e w10 ⟨rfl, rfl⟩
    go_wp2_with fail
    refine (toIntS_any xs a b off len cap w10 HL.out (HRD.out _ hB10).1 (HRD.out _ hB10).2 hsm).mono ?_
    rintro e w11 ⟨v11, rfl, ho11, hb11⟩
    obtain ⟨-, a11, c11, b11, rfl, hx11, hr11⟩ := own_shape ho11
    have hbl11 := HB.out w11 a11 b11 c11 hx11 hr11 (fun k hk => own_lt ho11 k hk)
    have hogm11 := own_now hogm hb11
    have ho0_11 := own_now ho0_10 hb11
    have hB11 := bnext hB10 hb11
    clear ho0_10 hogm hrm hB10
    go_wp2_with fail
    rw [HL.out]
    refine (HI.out a11 b11 c11 w11 hsm hr11 hbl11).mono ?_
    rintro e w12 ⟨vh, rfl, hoh, hb12⟩
    obtain ⟨-, ah, ch, bh, rfl, hxh, hrh⟩ := own_shape hoh
    have hogm12 := own_now hogm11 hb12
    have ho0_12 := own_now ho0_11 hb12
    have hB12 := bnext hB11 hb12
    obtain ⟨-, a0x, c0x, b0x, hv, -, hr0_12⟩ := own_shape ho0_12
    simp only [Value.slice.injEq] at hv
    obtain ⟨rfl, -, rfl⟩ := hv
    clear hogm11 ho0_11 hB11 ho11 hr11 hbl11
    go_wp2_with fail
    refine (eqIntS_same L ah a0 bh 0 b0x 0 _ _ ch c0 w12 rfl rfl hrh hr0_12).mono ?_
    rintro e w13 ⟨rfl, hs13⟩
    have hogm13 := own_same hogm12 hs13
    have hB13 := below_same hB12 hs13
    obtain ⟨-, agx, cgx, bgx, hv, -, hrm13⟩ := own_shape hogm13
    simp only [Value.slice.injEq] at hv
    obtain ⟨rfl, -, rfl⟩ := hv
    clear hogm12 ho0_12 hB12 hoh hrh hr0_12
    go_wp2_with fail
    refine (heldIntS_yes (mkd 1 L.length L) ag bgx 0 _ cg 1 w13 HLM.out hrm13 (by omega) (by rw [HLM.out]; omega) (fun j hj => mkd_all 1 L j (by rw [HLM.out] at hj; exact hj))).mono ?_
    rintro e w13 ⟨rfl, rfl⟩
    go_wp2_with fail
    go_ret
    exact ⟨rfl, hB13⟩
theorem law_FullCells (n : Int) (a : Option Addr) (len cap : Nat) (zs : List Int) (w : World) (_ : (Lit.int .i64 n).wf = true) (hrow : IsRow w a len cap zs) :
    Calls Try.prog 14 #[.int .i64 n, .slice a len cap] w fun e w' => e = .returned (.bool true) ∧ Below w.heap.size w w' :=
  lawOf_FullCells n a len cap zs w hrow _ _ (outFullCells_len n (zs.take len)) (fun a' b' cap' w' _ hr hb => specFullCells n _ a' b' len cap' w' (isRow_rd hrow).1 hr hb) (fun a' b' cap' w' hsm hr hb => implFullCells n _ a' b' len cap' w' (isRow_rd hrow).1 hsm hr hb)
end Go.Proofs.Ytgloelhpnhofgaa
