import Derived.Test.YtgpikaolgalpbaaYk
namespace Go.Proofs.Ytgpikaolgalpbaa
open Go.RowKit
set_option maxRecDepth 4000
/-- The labels of a point of the border and of the one across it have the sum 0. -/
def oppo (m : Nat) (xs : List Int) (k : Nat) : Bool := xs.getD (bq m k).toNat 0 + xs.getD (sqn m - 1 - (bq m k).toNat) 0 == 0
def oppB (m : Nat) (xs : List Int) : Bool := (List.range (8 * m)).all (oppo m xs)
def okOpp (n : Int) (xs : List Int) : Bool := sqB n xs && oppB n.toNat xs
theorem oppB_yes {m : Nat} {xs : List Int} (h : ∀ k, k < 8 * m → oppo m xs k = true) : oppB m xs = true := by
  simp only [oppB, List.all_eq_true, List.mem_range]; exact h
theorem oppB_no {m : Nat} {xs : List Int} (k : Nat) (hk : k < 8 * m) (h : oppo m xs k = false) : oppB m xs = false := by
  simp only [oppB, List.all_eq_false, List.mem_range]; exact ⟨k, hk, by rw [h]; exact Bool.false_ne_true⟩
set_option maxHeartbeats 400000 in
theorem sqAcross_any (n : Int) (i q : Nat) (h1 : 1 ≤ n) (h2 : n ≤ 4) (hq : sqc n = (q : Int) + i + 1) (w : World) :
    Calls Try.prog 85 #[.agg #[.int .i64 n], .int .i64 i] w fun e w' => e = .returned (.int .i64 q) ∧ Below w.heap.size w w' := by
  obtain ⟨-, hc⟩ := sqc_bd h1 h2
  have HQ := Lib.hid hq
  go_enter Try.func85, Try.ntmps85
  go_wp2_with fail
  refine (sqSize_any n h1 h2 _).mono ?_
  rintro e w1 ⟨rfl, hb⟩
  have hB : Below w.heap.size w w1 := Below.trans (by go_grown) (hb.mono (by simp))
  generalize sqc n = s at *
  have hsub : s - 1 - (i : Int) = (q : Int) := by omega
  clear hq
  go_wp2_with fail
  go_ret
  exact ⟨ret_int (by have := HQ.out; omega), hB⟩
set_option maxHeartbeats 1600000 in
theorem opIs_any (n : Int) (xs : List Int) (a : Option Addr) (b len cap : Nat) (w : World) (hn : xs.length = len) (hsm : len ≤ 1048576) (h : Rd w a b 0 xs) (hb0 : len = 0 ∨ b < w.heap.size) :
    Calls Try.prog 63 #[.int .i64 n, .slice a len cap] w fun e w' => e = .returned (.bool (okOpp n xs)) ∧ Below w.heap.size w w' := by
  have HM := Lib.hid (opLabels_any n xs a b 0 len cap w hn h hsm)
  cases hL : sqB n xs
  · have H1 : Hid (okOpp n xs = false) := Lib.hid (by simp [okOpp, hL])
    rw [hL] at HM
    clear hL h
    go_enter Try.func63, Try.ntmps63
    go_wp2_with fail
    refine HM.out.mono ?_
    rintro e w1 ⟨rfl, rfl⟩
    go_wp2_with fail
    go_ret
    exact ⟨ret_bool H1.out.symm, Below.refl _ _⟩
  · obtain ⟨n, rfl, h1, h2, hl, hA⟩ := sqB_nat hL
    have H1 : Hid (okOpp n xs = oppB n xs) := Lib.hid (by simp [okOpp, hL])
    have HBE := Lib.hid (bq_lt n (by omega))
    have hsl := sqn_le n h2
    have HX : Hid (∀ k, oppo n xs k = (xs.getD (bq n k).toNat 0 + xs.getD (sqn n - 1 - (bq n k).toNat) 0 == 0)) := Lib.hid (fun _ => rfl)
    have HY := Lib.hid (@oppB_yes n xs)
    have HNO := Lib.hid (@oppB_no n xs)
    have HC : ∀ w : World, Calls Try.prog 47 #[.int .i64 n] w fun e w' => e = .returned (.int .i64 (sqn n : Nat)) ∧ w = w' := fun w => by rw [← sqn_eq]; exact opCount_any n (by omega) (by omega) w
    have HC := Lib.hid HC
    have HR := Lib.hid (fun W (hB : Below w.heap.size w W) => h.later hn hb0 hB)
    have HAA := Lib.hid (fun k (hk : k < xs.length) => all4_at hA k hk)
    have HN := Lib.hid hn
    rw [hL] at HM
    have hls : len = sqn n := by omega
    have HLS := Lib.hid hls
    clear hL h hl hn hA hls
    generalize sqn n = s at hsl HX HC HBE HLS
    go_enter Try.func63, Try.ntmps63
    go_wp2_with fail
    refine HM.out.mono ?_
    rintro e w1 ⟨rfl, rfl⟩
    go_wp2_with fail
    refine (opBorder_any n h1 h2 _).mono ?_
    rintro e w1 ⟨v, rfl, ho1, hb1⟩
    obtain ⟨-, ba, bc, bb, rfl, hx, hrd⟩ := own_shape ho1
    have hbl := hx.imp_right fun h => own_lt ho1 bb (by rw [h]; rfl)
    have HRD := Lib.hid hrd
    have HBO := Lib.hid (bol_len n (8 * n))
    clear hrd hx ho1
    rw [HBO.out]
    go_wp2_with fail
    go_loopw [14] (fun v14 wr => ∃ k : Nat, k ≤ 8 * n ∧ v14 = .int .i64 k ∧ Hid (∀ j, j < k → oppo n xs j = true) ∧ Below w1.heap.size w1 wr) (fun v14 _ => 8 * n - (intOf v14).toNat)
    case atStart => exact ⟨0, Nat.zero_le _, rfl, Lib.hid (fun j hj => absurd hj (Nat.not_lt_zero _)), Below.refl _ _⟩
    case round =>
      obtain ⟨k, hk, rfl, hall, hb⟩ := hrel
      by_cases hlt : k < 8 * n
      · have hr1 := HRD.out.below hb hbl
        obtain ⟨rfl, c0⟩ := hr1.2 k (by rw [HBO.out]; exact hlt)
        rw [bol_at _ _ _ hlt, Nat.zero_add] at c0
        obtain ⟨i0, i1⟩ := HBE.out k hlt
        have HXK := Lib.hid (HX.out k)
        have hno := Lib.hid (HNO.out k hlt)
        have hst : Hid (oppo n xs k = true → ∀ j, j < k + 1 → oppo n xs j = true) := Lib.hid (fun h j hj => by
          by_cases e : j = k
          · rw [e]; exact h
          · exact hall.out j (by omega))
        have HW := Lib.hid (bnext hb1 hb)
        have hki : (k : Int) < ((8 * n : Nat) : Int) := by omega
        clear hr1 hbl hall
        generalize oppo n xs k = bo at HXK hno hst
        generalize bq n k = i at c0 i0 i1 HXK
        obtain ⟨i, rfl⟩ := Int.eq_ofNat_of_zero_le i0
        rw [Int.toNat_natCast] at HXK
        obtain ⟨q, hq⟩ : ∃ q, q = s - 1 - i := ⟨_, rfl⟩
        rw [← hq] at HXK
        have hsub : (s : Int) - 1 - (i : Int) = (q : Int) := by omega
        have hrw := HR.out wr HW.out
        obtain ⟨rfl, ca⟩ := hrw.2 i (by have := HN.out; have := HLS.out; omega)
        have cb := (hrw.2 q (by have := HN.out; have := HLS.out; omega)).2
        rw [Nat.zero_add] at ca cb
        have A1 := HAA.out i (by have := HN.out; have := HLS.out; omega)
        have A2 := HAA.out q (by have := HN.out; have := HLS.out; omega)
        have hbl : b < wr.heap.size := by have := HW.out.size; have := HLS.out; omega
        have hii : (i : Int) < (len : Int) := by have := HLS.out; omega
        have hqq : (q : Int) < (len : Int) := by have := HLS.out; omega
        generalize xs.getD i 0 = x at ca A1 HXK
        generalize xs.getD q 0 = y at cb A2 HXK
        clear hq hrw
        go_wp2_with fail
        refine wp_region_below (by kernel_rfl) (by kernel_rfl) ?_
        intro ι hne f hbf hcl
        have m1 : ∀ t, (f t).cell? ⟨b, i, none⟩ = some (.int .i64 x) := fun t => ((hbf t).cell (p := ⟨b, i, none⟩) hbl).trans ca
        have m2 : ∀ t, (f t).cell? ⟨b, q, none⟩ = some (.int .i64 y) := fun t => ((hbf t).cell (p := ⟨b, q, none⟩) hbl).trans cb
        repeat (go_big_quiet_step (first | (go_at_call 47; with_reducible refine (HC.out _).mono ?_; rintro e w' ⟨rfl, rfl⟩; exact ⟨rfl, _, rfl⟩)))
        refine wpQuiet_nil ?_
        rintro _ ⟨t, rfl⟩
        have hb2 := hb.trans ((hbf t).mono hb.size)
        generalize f t = w2 at hb2 ⊢
        clear m1 m2 hbf hcl hne ca cb hb
        cases hbo : bo
        · have HF := Lib.hid (hno.out hbo)
          have hne0 : (x + y != 0) = true := by
            have := HXK.out
            rw [hbo] at this
            rw [bne, ← this]; rfl
          go_wp2_with fail
          go_ret
          exact ⟨ret_bool (by rw [H1.out, HF.out]), bnext hb1 hb2⟩
        · have HT := Lib.hid (hst.out hbo)
          have hne0 : (x + y != 0) = false := by
            have := HXK.out
            rw [hbo] at this
            rw [bne, ← this]; rfl
          go_wp2_with fail
          go_roundw
          case rel => exact ⟨k + 1, by omega, by go_num, HT, hb2⟩
          case measure => simp [intOf]; omega
      · have HT := Lib.hid (HY.out (fun j hj => hall.out j (by omega)))
        go_wp2_with fail
        go_ret
        exact ⟨ret_bool (by rw [H1.out, HT.out]), bnext hb1 hb⟩
end Go.Proofs.Ytgpikaolgalpbaa
