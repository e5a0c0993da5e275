import Derived.Test.YtgpikaolgalpbaaYu
namespace Go.Proofs.Ytgpikaolgalpbaa
open Go.RowKit
set_option maxRecDepth 4000
/-- What the model's step says: an opposite edge, a step back, or a step on or none. -/
theorem plc_step (x y : Int) (hx : x = 1 ∨ x = 2 ∨ x = -1 ∨ x = -2) (hy : y = 1 ∨ y = 2 ∨ y = -1 ∨ y = -2) :
    (x + y = 0 ∧ Int.tmod (plc y - plc x + 4) 4 = 2) ∨ (¬ x + y = 0 ∧ Int.tmod (plc y - plc x + 4) 4 = 3 ∧ st x y = -1) ∨ (¬ x + y = 0 ∧ (Int.tmod (plc y - plc x + 4) 4 = 0 ∨ Int.tmod (plc y - plc x + 4) 4 = 1) ∧ st x y = Int.tmod (plc y - plc x + 4) 4) := by
  rcases hx with rfl | rfl | rfl | rfl <;> rcases hy with rfl | rfl | rfl | rfl <;> decide
theorem four4 {x : Int} (h : -2 ≤ x ∧ x ≤ 2 ∧ x ≠ 0) : x = 1 ∨ x = 2 ∨ x = -1 ∨ x = -2 := by omega
theorem no_opp (n : Nat) (xs : List Int) (h : ∀ j, j < 8 * n → sumB xs 0 ((sqPs n).getD j (0, 0)) = false) : (sqPs n).filter (sumB xs 0) = [] := by
  rw [List.filter_eq_nil_iff]
  intro p hp
  obtain ⟨j, hj, rfl⟩ := List.mem_iff_getElem.mp hp
  have e := h j (by rw [← sqPs_len]; exact hj)
  rw [List.getD_eq_getElem?_getD, List.getElem?_eq_getElem hj] at e
  simpa using e
theorem an_opp (n : Nat) (xs : List Int) (j : Nat) (hj : j < 8 * n) (h : sumB xs 0 ((sqPs n).getD j (0, 0)) = true) : (sqPs n).filter (sumB xs 0) ≠ [] := by
  intro e
  rw [List.filter_eq_nil_iff] at e
  have hj2 : j < (sqPs n).length := by rw [sqPs_len]; exact hj
  rw [List.getD_eq_getElem?_getD, List.getElem?_eq_getElem hj2] at h
  exact e _ (List.getElem_mem hj2) h
set_option maxHeartbeats 2400000 in
theorem specSquareTurns (n : Int) (xs : List Int) (a : Option Addr) (b len cap : Nat) (w : World) (hn : xs.length = len) (hsm : len ≤ 1048576) (h : Rd w a b 0 xs) (hb0 : len = 0 ∨ b < w.heap.size) :
    Calls Try.prog 42 #[.int .i64 n, .slice a len cap] w (OutT w (valTurns n xs) (okTurns n xs)) := by
  have HM := Lib.hid (opLabels_any n xs a b 0 len cap w hn h hsm)
  cases hL : sqB n xs
  · have H1 := Lib.hid (turns_no hL)
    rw [hL] at HM
    clear hL h
    go_enter Try.func42, Try.ntmps42
    go_wp2_with fail
    refine HM.out.mono ?_
    rintro e w1 ⟨rfl, rfl⟩
    go_wp2_with fail
    go_returns
    exact ⟨ret_ib H1.out.2.symm H1.out.1.symm, Below.refl _ _⟩
  · have HYES := Lib.hid (fun n' (e : n = ((n' : Nat) : Int)) => @turns_yes n' xs (e ▸ hL))
    obtain ⟨n, rfl, h1, h2, hl, hA⟩ := sqB_nat hL
    have HY := Lib.hid (fun h => HYES.out n rfl (no_opp n xs h))
    have HN := Lib.hid (fun j hj h => @turns_opp n xs (an_opp n xs j hj h))
    have HR := Lib.hid (fun W (hB : Below w.heap.size w W) => h.later hn hb0 hB)
    have HAA := Lib.hid (fun k (hk : k < len) => all4_at hA k (by omega))
    have HBE := Lib.hid (fun q (hq : q < 8 * n) => (by have := bq_lt n (by omega) q hq; omega : 0 ≤ bq n q ∧ bq n q < (len : Int)))
    have hsl := sqn_le n h2
    have hlb : len ≤ 81 := by omega
    have HPA := Lib.hid (fun k hk => sqPs_at n k hk)
    have HSU := Lib.hid (fun k (hk : k < 8 * n) => sT_succ xs (sqPs n) k (by rw [sqPs_len]; exact hk))
    have HTB := Lib.hid (fun k => sT_tk xs (sqPs n) k 32 (by rw [sqPs_len]; omega))
    have HTE : Hid (sT xs ((sqPs n).take (8 * n)) = sT xs (sqPs n)) := Lib.hid (by rw [← sqPs_len, List.take_length])
    have HT0 : Hid (sT xs ((sqPs n).take 0) = 0) := Lib.hid (by simp [sT])
    have HNX := Lib.hid hn
    have HB0 := Lib.hid hb0
    rw [hL] at HM
    clear hL h hl hn hA HYES hsl hb0
    go_enter Try.func42, Try.ntmps42
    go_wp2_with fail
    refine HM.out.mono ?_
    rintro e w1 ⟨rfl, rfl⟩
    go_wp2_with fail
    refine (opBorder_any n h1 h2 _).mono ?_
    rintro e w1 ⟨v, rfl, ho1, hb1⟩
    obtain ⟨-, ba, bc, bb, rfl, hx, hrd⟩ := own_shape ho1
    have HBL := Lib.hid (hx.imp_right fun h => own_lt ho1 bb (by rw [h]; rfl))
    have HRD := Lib.hid hrd
    have HBO := Lib.hid (bol_len n (8 * n))
    clear hrd hx ho1
    rw [HBO.out]
    go_wp2_with fail
    go_loopw [7, 19] (fun v7 v19 wr => ∃ k : Nat, k ≤ 8 * n ∧ v19 = .int .i64 k ∧ v7 = .int .i64 (sT xs ((sqPs n).take k)) ∧ Hid (∀ j, j < k → sumB xs 0 ((sqPs n).getD j (0, 0)) = false) ∧ Below w1.heap.size w1 wr) (fun _ v19 _ => 8 * n - (intOf v19).toNat)
    case atStart => exact ⟨0, Nat.zero_le _, rfl, by rw [HT0.out], Lib.hid (fun j hj => absurd hj (Nat.not_lt_zero _)), Below.refl _ _⟩
    case round =>
      obtain ⟨k, hk, rfl, rfl, hall, hb⟩ := hrel
      have htb := HTB.out k
      by_cases hlt : k < 8 * n
      · have hr1 := HRD.out.below hb HBL.out
        obtain ⟨rfl, c0⟩ := hr1.2 k (by rw [HBO.out]; exact hlt)
        have hmod : (k + 1) % (8 * n) < 8 * n := Nat.mod_lt _ (by omega)
        have c1 := (hr1.2 ((k + 1) % (8 * n)) (by rw [HBO.out]; exact hmod)).2
        rw [bol_at _ _ _ hlt, Nat.zero_add] at c0
        rw [bol_at _ _ _ hmod, Nat.zero_add] at c1
        obtain ⟨i0, i1⟩ := HBE.out k hlt
        obtain ⟨j0, j1⟩ := HBE.out _ hmod
        have hrem := rem_nat k (8 * n)
        have hmi2 : ((k : Int) + 1) % (8 * (n : Int)) < 8 * (n : Int) := Int.emod_lt_of_pos _ (by omega)
        have hmi3 : 0 ≤ ((k : Int) + 1) % (8 * (n : Int)) := Int.emod_nonneg _ (by omega)
        have hki : (k : Int) < ((8 * n : Nat) : Int) := by omega
        have hmi : (((k + 1) % (8 * n) : Nat) : Int) < ((8 * n : Nat) : Int) := by omega
        have hpa := HPA.out k hlt
        have hsu := HSU.out k hlt
        have hno : Hid (sumB xs 0 ((sqPs n).getD k (0, 0)) = true → okTurns (n : Int) xs = false ∧ valTurns (n : Int) xs = 0) := Lib.hid (HN.out k hlt)
        have hst : Hid (sumB xs 0 ((sqPs n).getD k (0, 0)) = false → ∀ j, j < k + 1 → sumB xs 0 ((sqPs n).getD j (0, 0)) = false) := Lib.hid (fun h j hj => by
          by_cases e : j = k
          · rw [e]; exact h
          · exact hall.out j (by omega))
        have HW := Lib.hid (bnext hb1 hb)
        rw [hpa] at hsu hno
        have HPK := Lib.hid hpa
        have hbb : bb < wr.heap.size := by
          rcases HBL.out with h | h
          · cases h
          · have := hb.size; omega
        clear hr1 hall hpa
        generalize bq n k = i at c0 i0 i1 hsu hno HPK
        generalize bq n ((k + 1) % (8 * n)) = j at c1 j0 j1 hsu hno HPK
        obtain ⟨i, rfl⟩ := Int.eq_ofNat_of_zero_le i0
        obtain ⟨j, rfl⟩ := Int.eq_ofNat_of_zero_le j0
        have hrw := HR.out wr HW.out
        obtain ⟨rfl, ca⟩ := hrw.2 i (by have := HNX.out; omega)
        have cb := (hrw.2 j (by have := HNX.out; omega)).2
        rw [Nat.zero_add] at ca cb
        have A1 := HAA.out i (by omega)
        have A2 := HAA.out j (by omega)
        have hbl : b < wr.heap.size := by have := HW.out.size; have := HB0.out; omega
        have HSM : Hid (sumB xs 0 ((i : Int), (j : Int)) = (xs.getD i 0 + xs.getD j 0 == 0)) := Lib.hid rfl
        have HSP : Hid (stp xs ((i : Int), (j : Int)) = st (xs.getD i 0) (xs.getD j 0)) := Lib.hid rfl
        have HSU1 := Lib.hid hsu
        have HTB1 := HTB.out (k + 1)
        clear hsu hrw
        generalize xs.getD i 0 = x at ca A1 HSM HSP
        generalize xs.getD j 0 = y at cb A2 HSM HSP
        have hst2 := plc_step x y (four4 A1) (four4 A2)
        have px : 0 ≤ plc x ∧ plc x ≤ 3 := by unfold plc; split <;> omega
        have py : 0 ≤ plc y ∧ plc y ≤ 3 := by unfold plc; split <;> omega
        have hem : (plc y - plc x + 4) % 4 = Int.tmod (plc y - plc x + 4) 4 := (Int.tmod_eq_emod_of_nonneg (by omega)).symm
        have HPX := Lib.hid (fun w => opPlace_any x A1.1 A1.2.1 w)
        have HPY := Lib.hid (fun w => opPlace_any y A2.1 A2.2.1 w)
        generalize plc x = p at *
        generalize plc y = q at *
        generalize (sT xs ((sqPs n).take k)) = s at htb HSU1 ⊢
        go_wp2_with fail
        refine wp_region_below (by kernel_rfl) (by kernel_rfl) ?_
        intro ι hne f hbf hcl
        have m0 : ∀ t, (f t).cell? ⟨bb, (k + 1) % (8 * n), none⟩ = some (.int .i64 j) := fun t => ((hbf t).cell (p := ⟨bb, (k + 1) % (8 * n), none⟩) hbb).trans c1
        have m1 : ∀ t, (f t).cell? ⟨b, i, none⟩ = some (.int .i64 x) := fun t => ((hbf t).cell (p := ⟨b, i, none⟩) hbl).trans ca
        have m2 : ∀ t, (f t).cell? ⟨b, j, none⟩ = some (.int .i64 y) := fun t => ((hbf t).cell (p := ⟨b, j, none⟩) hbl).trans cb
        repeat (go_big_quiet_step (first | (go_at_call 79; first | (with_reducible refine (HPX.out _).mono ?_; rintro e w' ⟨rfl, rfl⟩; exact ⟨rfl, _, rfl⟩) | (with_reducible refine (HPY.out _).mono ?_; rintro e w' ⟨rfl, rfl⟩; exact ⟨rfl, _, rfl⟩))))
        refine wpQuiet_nil ?_
        rintro _ ⟨t, rfl⟩
        have hb2 := hb.trans ((hbf t).mono hb.size)
        generalize f t = w2 at hb2 ⊢
        clear m0 m1 m2 hbf hcl hne ca cb c0 c1 hb
        rw [← hem] at hst2
        clear hem
        generalize hem2 : (q - p + 4) % 4 = r at hst2 ⊢
        rcases hst2 with ⟨hs0, rfl⟩ | ⟨hs0, rfl, hv⟩ | ⟨hs0, rfl | rfl, hv⟩
        · have HF := Lib.hid (hno.out (by rw [HSM.out]; simpa using hs0))
          clear hs0 hem2
          go_wp2_with fail
          go_returns
          exact ⟨ret_ib HF.out.2.symm HF.out.1.symm, bnext hb1 hb2⟩
        · have HT := Lib.hid (hst.out (by rw [HPK.out, HSM.out]; simpa using hs0))
          have HV := Lib.hid hv
          clear hv hs0 hem2
          go_wp2_with fail
          go_roundw
          case rel => exact ⟨k + 1, by omega, by go_num, by rw [HSU1.out, HSP.out, HV.out], HT, hb2⟩
          case measure => simp [intOf]; omega
        · have HT := Lib.hid (hst.out (by rw [HPK.out, HSM.out]; simpa using hs0))
          have HV := Lib.hid hv
          clear hv hs0 hem2
          go_wp2_with fail
          go_roundw
          case rel => exact ⟨k + 1, by omega, by go_num, by rw [HSU1.out, HSP.out, HV.out]; simp, HT, hb2⟩
          case measure => simp [intOf]; omega
        · have HT := Lib.hid (hst.out (by rw [HPK.out, HSM.out]; simpa using hs0))
          have HV := Lib.hid hv
          clear hv hs0 hem2
          go_wp2_with fail
          go_roundw
          case rel => exact ⟨k + 1, by omega, by go_num, by rw [HSU1.out, HSP.out, HV.out], HT, hb2⟩
          case measure => simp [intOf]; omega
      · have hk2 : k = 8 * n := by omega
        have HTK : Hid (sT xs ((sqPs n).take k) = sT xs (sqPs n)) := Lib.hid (by rw [hk2]; exact HTE.out)
        have HF := Lib.hid (HY.out (fun j hj => hall.out j (by omega)))
        clear hk2
        generalize sT xs ((sqPs n).take k) = t at htb HTK ⊢
        go_wp2_with fail
        go_returns
        exact ⟨ret_ib (by rw [HF.out.2, HTK.out]) HF.out.1.symm, bnext hb1 hb⟩
end Go.Proofs.Ytgpikaolgalpbaa
