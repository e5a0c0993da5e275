import Derived.Test.YtgpikaolgalpbaaGn
import Derived.Test.YtgpikaolgalpbaaZa
namespace Go.Proofs.Ytgpikaolgalpbaa
open Go.RowKit
set_option maxRecDepth 4000
theorem own_rd {w : World} {base : Nat} {et : TypeId} {a : Option Addr} {n cap : Nat} {xs : List Int} (h : w.ownsRow base et 1 (.slice a n cap) n (xs.map (Value.int .i64))) : ∃ b, Rd w a b 0 xs ∧ (a = none ∨ a = some ⟨b, 0, none⟩) := by
  obtain ⟨-, a', c', b, hv, hx, hr⟩ := own_shape h
  simp only [Value.slice.injEq] at hv
  obtain ⟨rfl, -, rfl⟩ := hv
  exact ⟨b, hr, hx⟩
set_option maxHeartbeats 1600000 in
theorem lawOf_SquareWalk (n : Int) (a : Option Addr) (len cap : Nat) (zs : List Int) (i j : Int) (w : World) (hrow : IsRow w a len cap zs) (L M : List Int) (ok : Bool) (hLen : L.length ≤ 1000) (hLen2 : M.length ≤ 1000)
    (hs : ∀ a' b' cap' w', len ≤ 1048576 → Rd w' a' b' 0 (zs.take len) → (len = 0 ∨ b' < w'.heap.size) → Calls Try.prog 38 #[.int .i64 n, .slice a' len cap', .int .i64 i, .int .i64 j] w' (Gives2 w' 3 3 L M ok))
    (hi : ∀ a' b' cap' w', len ≤ 1048576 → Rd w' a' b' 0 (zs.take len) → (len = 0 ∨ b' < w'.heap.size) → Calls Try.prog 39 #[.int .i64 n, .slice a' len cap', .int .i64 i, .int .i64 j] w' (Gives2 w' 3 89 L M ok)) :
    Calls Try.prog 11 #[.int .i64 n, .slice a len cap, .int .i64 i, .int .i64 j] w fun e w' => e = .returned (.bool true) ∧ Below w.heap.size w w' := by
  obtain ⟨hlen, b, off, hr, hbb⟩ := isRow_rd hrow
  generalize zs.take len = xs at hlen hr hs hi
  have hm := hr.1
  unfold maxLen at hm
  rw [hlen] at hm
  have HRD : Hid (∀ W, Below w.heap.size w W → Rd W a b off xs ∧ (len = 0 ∨ b < W.heap.size)) := by
    intro W hB
    refine ⟨⟨hr.1, fun j hj => ⟨(hr.2 j hj).1, ?_⟩⟩, ?_⟩
    · rcases hbb with h | h
      · rw [hlen, h] at hj; exact absurd hj (Nat.not_lt_zero _)
      · exact (hB.cell h).trans (hr.2 j hj).2
    · rcases hbb with h | h
      · exact .inl h
      · exact .inr (by have := hB.size; omega)
  have HL := Lib.hid hlen
  have HS := Lib.hid hs
  have HI := Lib.hid hi
  have HB : Hid (∀ (w0 : World) a0 b0 cap0, (a0 = none ∨ a0 = some (⟨b0, 0, none⟩ : Addr)) → Rd w0 a0 b0 0 xs → (∀ k, (Value.slice a0 xs.length cap0).ownBlock = some k → k < w0.heap.size) → len = 0 ∨ b0 < w0.heap.size) := by
    intro w0 a0 b0 cap0 hx hrd hlt
    rcases hx with h | h
    · left
      rcases Nat.eq_zero_or_pos xs.length with h0 | h0
      · rw [← hlen]; exact h0
      · have := (hrd.2 0 h0).1; rw [h] at this; cases this
    · exact .inr (hlt b0 (by rw [h]; rfl))
  clear hr hrow hlen hs hi
  by_cases hbig : (1048576 : Int) < (len : Int)
  · go_enter Try.func11, Try.ntmps11
    go_wp2_with fail
    go_ret
    exact ⟨rfl, Below.refl _ _⟩
  · have hsm : len ≤ 1048576 := by omega
    have hok : (ok != ok) = false := by simp
    go_enter Try.func11, Try.ntmps11
    go_wp2_with fail
    refine (toIntS_any xs a b off len cap w HL.out (HRD.out _ (Below.refl _ _)).1 (HRD.out _ (Below.refl _ _)).2 hsm).mono ?_
    rintro e w1 ⟨v1, rfl, ho1, hb1⟩
    obtain ⟨-, a1, c1, b1, rfl, hx1, hr1⟩ := own_shape ho1
    have hbl1 := HB.out w1 a1 b1 c1 hx1 hr1 (fun k hk => own_lt ho1 k hk)
    go_wp2_with fail
    rw [HL.out]
    refine (HS.out a1 b1 c1 w1 hsm hr1 hbl1).mono ?_
    rintro e w2 ⟨v0, u0, rfl, ho0, hp0, -, hb2⟩
    obtain ⟨-, a0, c0, b0, rfl, -, -⟩ := own_shape ho0
    obtain ⟨-, d0, f0, g0, rfl, -, -⟩ := own_shape hp0
    have hlt0 := own_lt ho0
    have hltp := own_lt hp0
    have hB := bnext hb1 hb2
    have HWS : Hid (w.heap.size ≤ w2.heap.size ∧ w2.heap.size ≤ w2.heap.size) := Lib.hid ⟨hB.size, Nat.le_refl _⟩
    clear ho1 hr1 hb1 hb2 hbl1
    go_wp2_with fail
    refine (toIntS_any xs a b off len cap w2 HL.out (HRD.out _ hB).1 (HRD.out _ hB).2 hsm).mono ?_
    rintro e w3 ⟨v3, rfl, ho3, hb3⟩
    obtain ⟨-, a3, c3, b3, rfl, hx3, hr3⟩ := own_shape ho3
    replace ho0 := own_now ho0 hb3
    replace hp0 := own_now hp0 hb3
    replace hB := bnext hB hb3
    have hbl3 := HB.out w3 a3 b3 c3 hx3 hr3 (fun k hk => own_lt ho3 k hk)
    have hlt3 := own_lt ho3
    have h23 := hb3.size
    go_wp2_with fail
    rw [HL.out]
    refine (HI.out a3 b3 c3 w3 hsm hr3 hbl3).mono ?_
    rintro e w4 ⟨vg, ug, rfl, hog, hpg, hdj, hb4⟩
    obtain ⟨-, ag, cg, bg, rfl, hxg, -⟩ := own_shape hog
    obtain ⟨-, dg, fg, gg, rfl, hyg, -⟩ := own_shape hpg
    replace ho0 := own_now ho0 hb4
    replace hp0 := own_now hp0 hb4
    replace ho3 := own_now ho3 hb4
    replace hB := bnext hB hb4
    have h34 := hb4.size
    have hltg := own_lt hog
    have hltk := own_lt hpg
    have HDJ := Lib.hid hdj
    clear hdj hr3 hbl3 hb4 hb3
    go_wp2_with fail
    obtain ⟨bx, hrx, -⟩ := own_rd hog
    obtain ⟨by', hry, -⟩ := own_rd ho0
    refine (eqIntS_same L ag a0 bx 0 by' 0 _ _ cg c0 w4 rfl rfl hrx hry).mono ?_
    rintro e w5 ⟨rfl, hs⟩
    replace ho0 := own_same ho0 hs
    replace hp0 := own_same hp0 hs
    replace ho3 := own_same ho3 hs
    replace hog := own_same hog hs
    replace hpg := own_same hpg hs
    have hw5 : w4.heap.size ≤ w5.heap.size := (hs 0).size
    replace hB := below_same hB hs
    clear hs hrx hry
    go_wp2_with fail
    obtain ⟨bx, hrx, -⟩ := own_rd hpg
    obtain ⟨by', hry, -⟩ := own_rd hp0
    refine (eqIntS_same M dg d0 bx 0 by' 0 _ _ fg f0 w5 rfl rfl hrx hry).mono ?_
    rintro e w6 ⟨rfl, hs⟩
    replace ho0 := own_same ho0 hs
    replace hp0 := own_same hp0 hs
    replace ho3 := own_same ho3 hs
    replace hog := own_same hog hs
    replace hpg := own_same hpg hs
    have hw6 : w5.heap.size ≤ w6.heap.size := (hs 0).size
    replace hB := below_same hB hs
    clear hs hrx hry
    go_wp2_with fail
    refine (toIntS_any xs a b off len cap w6 HL.out (HRD.out _ hB).1 (HRD.out _ hB).2 hsm).mono ?_
    rintro e w7 ⟨v7, rfl, ho7, hb7⟩
    obtain ⟨-, a7, c7, b7, rfl, hx7, hr7⟩ := own_shape ho7
    replace ho0 := own_now ho0 hb7
    replace hp0 := own_now hp0 hb7
    replace ho3 := own_now ho3 hb7
    replace hog := own_now hog hb7
    replace hpg := own_now hpg hb7
    replace hB := bnext hB hb7
    have h67 := hb7.size
    go_wp2_with fail
    obtain ⟨bx, hrx, -⟩ := own_rd ho3
    refine (eqIntS_same xs a3 a7 bx 0 b7 0 _ _ c3 c7 w7 HL.out rfl hrx hr7).mono ?_
    rintro e w8 ⟨rfl, hs⟩
    replace ho0 := own_same ho0 hs
    replace hp0 := own_same hp0 hs
    replace ho3 := own_same ho3 hs
    replace hog := own_same hog hs
    replace hpg := own_same hpg hs
    have hw8 : w7.heap.size ≤ w8.heap.size := (hs 0).size
    replace hB := below_same hB hs
    clear hs hrx hr7 ho7 hb7
    rw [HL.out] at ho3
    go_wp2_with fail
    refine (markIntS_only _ xs a3 w2.heap.size _ c3 1 w8 ho3 (by omega) (by have := HL.out; omega)).mono ?_
    rintro e w9 ⟨rfl, ho3m, hb9, hk9⟩
    have hne : ∀ k, (k < w2.heap.size ∨ w3.heap.size ≤ k) → w9.heap[k]? = w8.heap[k]? := fun k hk => by
      apply hk9
      rcases hx3 with h | h
      · exact .inl h
      · refine .inr ⟨b3, h, ?_⟩
        have h1 := hlt3 b3 (by rw [h]; rfl)
        have h2 := (ho3.lt b3 (by rw [h]; rfl)).1
        omega
    replace hog := own_keep hog (fun k hk => hne k (.inr ((hog.lt k hk).1)))
    replace hpg := own_keep hpg (fun k hk => hne k (.inr ((hpg.lt k hk).1)))
    replace ho0 := own_keep ho0 (fun k hk => hne k (.inl (hlt0 k hk)))
    replace hp0 := own_keep hp0 (fun k hk => hne k (.inl (hltp k hk)))
    replace hB := hB.trans (hb9.mono (by have := hB.size; have := HWS.out; omega))
    have hw9 := hb9.size
    clear hne hk9 ho3m ho3 hb9
    go_wp2_with fail
    obtain ⟨bx, hrx, -⟩ := own_rd hog
    obtain ⟨by', hry, -⟩ := own_rd ho0
    refine (eqIntS_same L ag a0 bx 0 by' 0 _ _ cg c0 w9 rfl rfl hrx hry).mono ?_
    rintro e w10 ⟨rfl, hs⟩
    replace ho0 := own_same ho0 hs
    replace hp0 := own_same hp0 hs
    replace hog := own_same hog hs
    replace hpg := own_same hpg hs
    have hw10 : w9.heap.size ≤ w10.heap.size := (hs 0).size
    replace hB := below_same hB hs
    clear hs hrx hry
    go_wp2_with fail
    obtain ⟨bx, hrx, -⟩ := own_rd hpg
    obtain ⟨by', hry, -⟩ := own_rd hp0
    refine (eqIntS_same M dg d0 bx 0 by' 0 _ _ fg f0 w10 rfl rfl hrx hry).mono ?_
    rintro e w11 ⟨rfl, hs⟩
    replace ho0 := own_same ho0 hs
    replace hp0 := own_same hp0 hs
    replace hog := own_same hog hs
    replace hpg := own_same hpg hs
    have hw11 : w10.heap.size ≤ w11.heap.size := (hs 0).size
    replace hB := below_same hB hs
    clear hs hrx hry
    go_wp2_with fail
    refine (markIntS_only _ L ag w3.heap.size _ cg 1 w11 hog (by omega) (by omega)).mono ?_
    rintro e w12 ⟨rfl, hog', hb12, hk12⟩
    have hkp : ∀ k, (∀ q, (Value.slice ag L.length cg).ownBlock = some q → k ≠ q) → w12.heap[k]? = w11.heap[k]? := fun k hk => by
      apply hk12
      rcases hxg with h | h
      · exact .inl h
      · exact .inr ⟨bg, h, hk bg (by rw [h]; rfl)⟩
    replace hpg := own_keep hpg (fun k hk => hkp k (fun q hq e => HDJ.out q hq (by rw [← e]; exact hk)))
    replace ho0 := own_later ho0 (fun k hk => Nat.lt_of_lt_of_le (hlt0 k hk) h23) hb12
    replace hp0 := own_later hp0 (fun k hk => Nat.lt_of_lt_of_le (hltp k hk) h23) hb12
    replace hB := hB.trans (hb12.mono (by have := HWS.out; omega))
    have hw12 := hb12.size
    clear hog hk12 hkp hb12
    have HL1 : Hid ((mkd 1 L.length L).length = L.length) := Lib.hid (mkd_len _ _ _ (Nat.le_refl _))
    have hLi : (1 : Int) + (L.length : Int) ≤ 1001 := by omega
    go_wp2_with fail
    refine (markIntS_only _ M dg w3.heap.size _ fg (1 + (L.length : Int)) w12 hpg (by omega) (by omega)).mono ?_
    rintro e w13 ⟨rfl, hpg', hb13, hk13⟩
    have hkq : ∀ k, (∀ q, (Value.slice dg M.length fg).ownBlock = some q → k ≠ q) → w13.heap[k]? = w12.heap[k]? := fun k hk => by
      apply hk13
      rcases hyg with h | h
      · exact .inl h
      · exact .inr ⟨gg, h, hk gg (by rw [h]; rfl)⟩
    replace hog' := own_keep hog' (fun k hk => hkq k (fun q hq e => HDJ.out q (by rw [← e]; exact hk) hq))
    replace ho0 := own_later ho0 (fun k hk => Nat.lt_of_lt_of_le (hlt0 k hk) h23) hb13
    replace hp0 := own_later hp0 (fun k hk => Nat.lt_of_lt_of_le (hltp k hk) h23) hb13
    replace hB := hB.trans (hb13.mono (by have := HWS.out; omega))
    clear hpg hk13 hkq hb13
    have HM1 : Hid ((mkd (1 + (L.length : Int)) M.length M).length = M.length) := Lib.hid (mkd_len _ _ _ (Nat.le_refl _))
    go_wp2_with fail
    obtain ⟨bx, hrx, -⟩ := own_rd hog'
    refine (heldIntS_yes (mkd 1 L.length L) ag bx 0 _ cg 1 w13 HL1.out hrx (by omega) (by rw [HL1.out]; omega) (fun j hj => mkd_all 1 L j (by rw [HL1.out] at hj; exact hj))).mono ?_
    rintro e w13' ⟨rfl, rfl⟩
    clear hrx
    have h1p : (0 : Int) ≤ 1 + (L.length : Int) := by omega
    go_wp2_with fail
    obtain ⟨bx, hrx, -⟩ := own_rd hpg'
    refine (heldIntS_yes (mkd (1 + (L.length : Int)) M.length M) dg bx 0 _ fg (1 + (L.length : Int)) w13 HM1.out hrx (by omega) (by rw [HM1.out]; omega) (fun j hj => mkd_all _ M j (by rw [HM1.out] at hj; exact hj))).mono ?_
    rintro e w13' ⟨rfl, rfl⟩
    clear hrx
    have h2p : (0 : Int) ≤ 1 + (L.length : Int) + (M.length : Int) := by omega
    go_wp2_with fail
    refine (toIntS_any xs a b off len cap w13 HL.out (HRD.out _ hB).1 (HRD.out _ hB).2 hsm).mono ?_
    rintro e w14 ⟨v14, rfl, ho14, hb14⟩
    obtain ⟨-, a14, c14, b14, rfl, hx14, hr14⟩ := own_shape ho14
    replace ho0 := own_now ho0 hb14
    replace hp0 := own_now hp0 hb14
    replace hog' := own_now hog' hb14
    replace hpg' := own_now hpg' hb14
    replace hB := bnext hB hb14
    have hbl14 := HB.out w14 a14 b14 c14 hx14 hr14 (fun k hk => own_lt ho14 k hk)
    go_wp2_with fail
    rw [HL.out]
    refine (HI.out a14 b14 c14 w14 hsm hr14 hbl14).mono ?_
    rintro e w15 ⟨vh, uh, rfl, hoh, hph, -, hb15⟩
    obtain ⟨-, ah, ch, bh, rfl, -, -⟩ := own_shape hoh
    obtain ⟨-, dh, fh, gh, rfl, -, -⟩ := own_shape hph
    replace ho0 := own_now ho0 hb15
    replace hp0 := own_now hp0 hb15
    replace hog' := own_now hog' hb15
    replace hpg' := own_now hpg' hb15
    replace hB := bnext hB hb15
    clear ho14 hr14 hbl14 hb15 hb14
    go_wp2_with fail
    obtain ⟨bx, hrx, -⟩ := own_rd hoh
    obtain ⟨by', hry, -⟩ := own_rd ho0
    refine (eqIntS_same L ah a0 bx 0 by' 0 _ _ ch c0 w15 rfl rfl hrx hry).mono ?_
    rintro e w16 ⟨rfl, hs⟩
    replace ho0 := own_same ho0 hs
    replace hp0 := own_same hp0 hs
    replace hog' := own_same hog' hs
    replace hpg' := own_same hpg' hs
    replace hph := own_same hph hs
    have hw16 : w15.heap.size ≤ w16.heap.size := (hs 0).size
    replace hB := below_same hB hs
    clear hs hrx hry
    go_wp2_with fail
    obtain ⟨bx, hrx, -⟩ := own_rd hph
    obtain ⟨by', hry, -⟩ := own_rd hp0
    refine (eqIntS_same M dh d0 bx 0 by' 0 _ _ fh f0 w16 rfl rfl hrx hry).mono ?_
    rintro e w17 ⟨rfl, hs⟩
    replace ho0 := own_same ho0 hs
    replace hp0 := own_same hp0 hs
    replace hog' := own_same hog' hs
    replace hpg' := own_same hpg' hs
    replace hph := own_same hph hs
    have hw17 : w16.heap.size ≤ w17.heap.size := (hs 0).size
    replace hB := below_same hB hs
    clear hs hrx hry
    go_wp2_with fail
    obtain ⟨bx, hrx, -⟩ := own_rd hog'
    refine (heldIntS_yes (mkd 1 L.length L) ag bx 0 _ cg 1 w17 HL1.out hrx (by omega) (by rw [HL1.out]; omega) (fun j hj => mkd_all 1 L j (by rw [HL1.out] at hj; exact hj))).mono ?_
    rintro e w17' ⟨rfl, rfl⟩
    clear hrx
    have h1p : (0 : Int) ≤ 1 + (L.length : Int) := by omega
    go_wp2_with fail
    obtain ⟨bx, hrx, -⟩ := own_rd hpg'
    refine (heldIntS_yes (mkd (1 + (L.length : Int)) M.length M) dg bx 0 _ fg (1 + (L.length : Int)) w17 HM1.out hrx (by omega) (by rw [HM1.out]; omega) (fun j hj => mkd_all _ M j (by rw [HM1.out] at hj; exact hj))).mono ?_
    rintro e w17' ⟨rfl, rfl⟩
    clear hrx
    have h2p : (0 : Int) ≤ 1 + (L.length : Int) + (M.length : Int) := by omega
    go_wp2_with fail
    go_ret
    exact ⟨rfl, hB⟩
theorem val1_len (n : Int) (xs : List Int) (i j : Int) : (val1 n xs i j).length ≤ 1000 := by
  unfold val1
  split
  · rename_i hL
    obtain ⟨m, rfl, h1, h2, -, -⟩ := sqB_nat hL
    rw [Int.toNat_natCast]
    cases swF m xs i j with
    | none => simp
    | some p =>
      simp only
      rw [ints_len]
      have e := gFrom_len (sqC m).length (cpr (sqC m)) (sumB xs 3) (-1) p
      have := (sq_fgr hL).clen
      unfold swW
      omega
  · simp
theorem val2_len (n : Int) (xs : List Int) (i j : Int) : (val2 n xs i j).length ≤ 1000 := by
  unfold val2
  split
  · split
    · simp
    · rename_i p _
      cases edgeP xs n.toNat (swW n.toNat xs p) <;> simp [edL]
  · simp
theorem law_SquareWalk (n : Int) (a : Option Addr) (len cap : Nat) (zs : List Int) (i j : Int) (w : World) (_ : (Lit.int .i64 n).wf = true) (hrow : IsRow w a len cap zs) (_ : (Lit.int .i64 i).wf = true) (_ : (Lit.int .i64 j).wf = true) :
    Calls Try.prog 11 #[.int .i64 n, .slice a len cap, .int .i64 i, .int .i64 j] w fun e w' => e = .returned (.bool true) ∧ Below w.heap.size w w' :=
  lawOf_SquareWalk n a len cap zs i j w hrow _ _ _ (val1_len n _ i j) (val2_len n _ i j) (fun a' b' cap' w' hsm hr hb => specSquareWalk n _ i j a' b' len cap' w' (isRow_rd hrow).1 hsm hr hb) (fun a' b' cap' w' hsm hr hb => implSquareWalk n _ i j a' b' len cap' w' (isRow_rd hrow).1 hsm hr hb)
end Go.Proofs.Ytgpikaolgalpbaa
