import Derived.Test.YtgloelhpnhofgaaR5
import Derived.Test.YtgloelhpnhofgaaZa
namespace Go.Proofs.Ytgloelhpnhofgaa
open Go.RowKit
set_option maxRecDepth 4000
set_option maxHeartbeats 1600000 in
theorem lawOf_BorderDoors (n : Int) (a : Option Addr) (len cap : Nat) (zs : List Int) (w : World) (hrow : IsRow w a len cap zs) (cs : List (List Int)) (ok : Bool) (hLen : cs.length ≤ 100000) (hRow : ∀ i, i < cs.length → (cs.getD i []).length ≤ 1000)
    (hs : ∀ a' b' cap' w', len ≤ 1048576 → Rd w' a' b' 0 (zs.take len) → (len = 0 ∨ b' < w'.heap.size) → Calls Try.prog 40 #[.int .i64 n, .slice a' len cap'] w' (CGives w' cs ok))
    (hi : ∀ a' b' cap' w', len ≤ 1048576 → Rd w' a' b' 0 (zs.take len) → (len = 0 ∨ b' < w'.heap.size) → Calls Try.prog 41 #[.int .i64 n, .slice a' len cap'] w' (CGives w' cs ok)) :
    Calls Try.prog 11 #[.int .i64 n, .slice a len cap] w fun e w' => e = .returned (.bool true) ∧ Below w.heap.size w w' := by
  obtain ⟨hlen, b, off, hr, hbb⟩ := isRow_rd hrow
  generalize zs.take len = xs at hlen hr hs hi
  have hm := hr.1
  unfold maxLen at hm
  rw [hlen] at hm
  have HRD : Hid (∀ W, Below w.heap.size w W → Rd W a b off xs ∧ (len = 0 ∨ b < W.heap.size)) := by
    intro W hB
    refine ⟨⟨hr.1, fun j hj => ⟨(hr.2 j hj).1, ?_⟩⟩, ?_⟩
    · rcases hbb with h | h
      · rw [hlen, h] at hj; exact absurd hj (Nat.not_lt_zero _)
      · exact (hB.cell h).trans (hr.2 j hj).2
    · rcases hbb with h | h
      · exact .inl h
      · exact .inr (by have := hB.size; omega)
  have HL := Lib.hid hlen
  have HS := Lib.hid hs
  have HI := Lib.hid hi
  have HB : Hid (∀ (w0 : World) a0 b0 cap0, (a0 = none ∨ a0 = some (⟨b0, 0, none⟩ : Addr)) → Rd w0 a0 b0 0 xs → (∀ k, (Value.slice a0 xs.length cap0).ownBlock = some k → k < w0.heap.size) → len = 0 ∨ b0 < w0.heap.size) := by
    intro w0 a0 b0 cap0 hx hrd hlt
    rcases hx with h | h
    · left
      rcases Nat.eq_zero_or_pos xs.length with h0 | h0
      · rw [← hlen]; exact h0
      · have := (hrd.2 0 h0).1; rw [h] at this; cases this
    · exact .inr (hlt b0 (by rw [h]; rfl))
  clear hr hrow hlen hs hi
  by_cases hbig : (1048576 : Int) < (len : Int)
  · go_enter Try.func11, Try.ntmps11
    go_wp2_with fail
    go_ret
    exact ⟨rfl, Below.refl _ _⟩
  · have hsm : len ≤ 1048576 := by omega
    have hok : (ok != ok) = false := by simp
    obtain ⟨ls, hls, hsmr, hln⟩ : ∃ ls : List Nat, Lens ls cs ∧ (∀ i, ls.getD i 0 ≤ 1000) ∧ ls.length ≤ 100000 := ⟨cs.map List.length, lens_self cs, fun i => by
      rw [← (lens_self cs).2 i]
      by_cases hlt : i < cs.length
      · exact hRow i hlt
      · simp [List.getD, List.getElem?_eq_none (Nat.le_of_not_lt hlt)], by simpa using hLen⟩
    have HLS := Lib.hid hls
    have HSM := Lib.hid hsmr
    have hto : offs ls ls.length ≤ 100000000 := Nat.le_trans (offs_le ls hsmr ls.length) (by omega)
    clear hRow hls hsmr
    go_enter Try.func11, Try.ntmps11
    go_wp2_with fail
    refine (toIntS_any xs a b off len cap w HL.out (HRD.out _ (Below.refl _ _)).1 (HRD.out _ (Below.refl _ _)).2 hsm).mono ?_
    rintro e w1 ⟨v1, rfl, ho1, hb1⟩
    obtain ⟨-, a1, c1, b1, rfl, hx1, hr1⟩ := own_shape ho1
    have hbl1 := HB.out w1 a1 b1 c1 hx1 hr1 (fun k hk => own_lt ho1 k hk)
    go_wp2_with fail
    rw [HL.out]
    refine (HS.out a1 b1 c1 w1 hsm hr1 hbl1).mono ?_
    rintro e w2 ⟨v0, rfl, hc0, hb2⟩
    obtain ⟨a0, n0, c0, rfl⟩ := cells_shape hc0
    have hB2 := bnext hb1 hb2
    clear ho1 hr1 hb1 hb2 hbl1
    go_wp2_with fail
    refine (toIntS_any xs a b off len cap w2 HL.out (HRD.out _ hB2).1 (HRD.out _ hB2).2 hsm).mono ?_
    rintro e w3 ⟨v3, rfl, ho3, hb3⟩
    obtain ⟨-, a3, c3, b3, rfl, hx3, hr3⟩ := own_shape ho3
    have hbl3 := HB.out w3 a3 b3 c3 hx3 hr3 (fun k hk => own_lt ho3 k hk)
    have hB3 := bnext hB2 hb3
    have hlt3 := own_lt ho3
    go_wp2_with fail
    rw [HL.out]
    refine (HI.out a3 b3 c3 w3 hsm hr3 hbl3).mono ?_
    rintro e w4 ⟨vg, rfl, hcg, hb4⟩
    obtain ⟨ag, ng, cg, rfl⟩ := cells_shape hcg
    have ho3_4 := own_now ho3 hb4
    have hB4 := bnext hB3 hb4
    have hC4 := bnext hb3 hb4
    clear ho3 hr3 hbl3
    go_wp2_with fail
    refine (eqIntSS_same cs ag a0 _ _ _ _ cg c0 w4 hcg (cells_now hc0 hC4)).mono ?_
    rintro e w5 ⟨rfl, hs5⟩
    have hcg5 := cells_now hcg (hs5 _)
    have ho3_5 := own_same ho3_4 hs5
    have hB5 := below_same hB4 hs5
    have hC5 := below_same hC4 hs5
    have hsz5 : w4.heap.size ≤ w5.heap.size := (hs5 0).size
    clear hcg ho3_4 hB4 hC4
    go_wp2_with fail
    refine (toIntS_any xs a b off len cap w5 HL.out (HRD.out _ hB5).1 (HRD.out _ hB5).2 hsm).mono ?_
    rintro e w6 ⟨v6, rfl, ho6, hb6⟩
    obtain ⟨-, a6, c6, b6, rfl, hx6, hr6⟩ := own_shape ho6
    have hcg6 := cells_now hcg5 hb6
    have ho3_6 := own_now ho3_5 hb6
    have hB6 := bnext hB5 hb6
    have hC6 := bnext hC5 hb6
    obtain ⟨-, a3', c3', b3', hv, hx3', hr3_6⟩ := own_shape ho3_6
    simp only [Value.slice.injEq] at hv
    obtain ⟨rfl, -, rfl⟩ := hv
    clear hcg5 ho3_5 hB5 hC5 ho6
    go_wp2_with fail
    refine (eqIntS_same xs a3 a6 b3' 0 b6 0 _ _ c3 c6 w6 HL.out rfl hr3_6 hr6).mono ?_
    rintro e w7 ⟨rfl, hs7⟩
    have hcg7 := cells_now hcg6 (hs7 _)
    have ho3_7 := own_same ho3_6 hs7
    have hB7 := below_same hB6 hs7
    have hC7 := below_same hC6 hs7
    have hsz7 : w4.heap.size ≤ w7.heap.size := Nat.le_trans hsz5 (Nat.le_trans hb6.size (hs7 0).size)
    clear hcg6 ho3_6 hB6 hC6 hr3_6 hr6
    rw [HL.out] at ho3_7
    go_wp2_with fail
    refine (markIntS_only _ xs a3 w2.heap.size _ c3 1 w7 ho3_7 (by omega) (by have := HL.out; omega)).mono ?_
    rintro e w8 ⟨rfl, ho3m, hb8, hk8⟩
    have h38 : w3.heap.size ≤ w4.heap.size := hb4.size
    have hne : ∀ k, w3.heap.size ≤ k → w8.heap[k]? = w7.heap[k]? := fun k hk => by
      apply hk8
      rcases hx3 with h | h
      · exact .inl h
      · refine .inr ⟨b3, h, ?_⟩
        have h1 := hlt3 b3 (by rw [h]; rfl)
        have h2 := (ho3_7.lt b3 (by rw [h]; rfl)).1
        omega
    have hcg8 := cells_keep hcg7 hne
    have hB8 := hB7.trans (hb8.mono hB2.size)
    have hC8 := hC7.trans hb8
    have hsz8 : w4.heap.size ≤ w8.heap.size := Nat.le_trans hsz7 hb8.size
    clear hcg7 ho3_7 hB7 hC7 hne hk8 ho3m
    go_wp2_with fail
    refine (eqIntSS_same cs ag a0 _ _ _ _ cg c0 w8 hcg8 (cells_now hc0 hC8)).mono ?_
    rintro e w9 ⟨rfl, hs9⟩
    have hcg9 := cells_now hcg8 (hs9 _)
    have hB9 := below_same hB8 hs9
    have hC9 := below_same hC8 hs9
    have hsz9 : w4.heap.size ≤ w9.heap.size := Nat.le_trans hsz8 (hs9 0).size
    clear hcg8 hB8 hC8
    go_wp2_with fail
    refine (markIntSS_any ls cs HLS.out HSM.out hln ag w3.heap.size ng cg w9 hcg9).mono ?_
    rintro e w10 ⟨rfl, ⟨cs', hmk, hcm⟩, hb10⟩
    have hB10 := hB9.trans (hb10.mono hB3.size)
    have hC10 := hC9.trans (hb10.mono hb3.size)
    clear hcg9 hB9 hC9
    generalize hto' : offs ls ls.length = tot at hto
    go_wp2_with fail
    refine (heldIntSS_yes ls cs' hmk HSM.out hln ag _ ng cg w10 hcm).mono ?_
    rintro e w10' ⟨rfl, rfl⟩
    rw [hto']
    go_wp2_with fail
    refine (toIntS_any xs a b off len cap w10 HL.out (HRD.out _ hB10).1 (HRD.out _ hB10).2 hsm).mono ?_
    rintro e w11 ⟨v11, rfl, ho11, hb11⟩
    obtain ⟨-, a11, c11, b11, rfl, hx11, hr11⟩ := own_shape ho11
    have hbl11 := HB.out w11 a11 b11 c11 hx11 hr11 (fun k hk => own_lt ho11 k hk)
    have hcm11 := cells_now hcm hb11
    have hB11 := bnext hB10 hb11
    have hC11 := bnext hC10 hb11
    clear hcm hB10 hC10
    go_wp2_with fail
    rw [HL.out]
    refine (HI.out a11 b11 c11 w11 hsm hr11 hbl11).mono ?_
    rintro e w12 ⟨vh, rfl, hch, hb12⟩
    obtain ⟨ah, nh, ch, rfl⟩ := cells_shape hch
    have hcm12 := cells_now hcm11 hb12
    have hB12 := bnext hB11 hb12
    have hC12 := bnext hC11 hb12
    clear hcm11 hB11 hC11 ho11 hr11 hbl11
    go_wp2_with fail
    refine (eqIntSS_same cs ah a0 _ _ _ _ ch c0 w12 hch (cells_now hc0 hC12)).mono ?_
    rintro e w13 ⟨rfl, hs13⟩
    have hcm13 := cells_now hcm12 (hs13 _)
    have hB13 := below_same hB12 hs13
    clear hcm12 hB12 hC12 hch
    go_wp2_with fail
    refine (heldIntSS_yes ls cs' hmk HSM.out hln ag _ ng cg w13 hcm13).mono ?_
    rintro e w13' ⟨rfl, rfl⟩
    rw [hto']
    go_wp2_with fail
    go_ret
    exact ⟨rfl, hB13⟩
theorem law_BorderDoors (n : Int) (a : Option Addr) (len cap : Nat) (zs : List Int) (w : World) (_ : (Lit.int .i64 n).wf = true) (hrow : IsRow w a len cap zs) :
    Calls Try.prog 11 #[.int .i64 n, .slice a len cap] w fun e w' => e = .returned (.bool true) ∧ Below w.heap.size w w' :=
  lawOf_BorderDoors n a len cap zs w hrow _ _ (outBorder_len n (zs.take len)) (outBorder_row n (zs.take len)) (fun a' b' cap' w' _ hr hb => specBorderDoors n _ a' b' len cap' w' (isRow_rd hrow).1 hr hb) (fun a' b' cap' w' hsm hr hb => implBorderDoors n _ a' b' len cap' w' (isRow_rd hrow).1 hsm hr hb)
end Go.Proofs.Ytgloelhpnhofgaa
