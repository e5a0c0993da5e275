import Derived.Test.YtgpikaolgalpbaaYl
namespace Go.Proofs.Ytgpikaolgalpbaa
open Go.RowKit
set_option maxRecDepth 4000
set_option maxHeartbeats 1600000 in
theorem areOpposite_any (n : Nat) (xs : List Int) (a : Option Addr) (b len cap : Nat) (w : World) (hn : xs.length = len) (h : Rd w a b 0 xs) (hb0 : len = 0 ∨ b < w.heap.size) (hL : sqB n xs = true) :
    Calls Try.prog 65 #[.agg (lqA n a len cap)] w fun e w' => e = .returned (.bool (oppB n xs)) ∧ Below w.heap.size w w' := by
  obtain ⟨n', hnn, h1, h2, hl, hA⟩ := sqB_nat hL
  obtain rfl : n = n' := by omega
  clear hnn
  have HBE := Lib.hid (bq_lt n (by omega))
  have hsl := sqn_le n h2
  have hsc := sqn_eq n
  have HX : Hid (∀ k, oppo n xs k = (xs.getD (bq n k).toNat 0 + xs.getD (sqn n - 1 - (bq n k).toNat) 0 == 0)) := Lib.hid (fun _ => rfl)
  have HY := Lib.hid (@oppB_yes n xs)
  have HNO := Lib.hid (@oppB_no n xs)
  have HD : Hid (∀ W, Below w.heap.size w W → ∀ k : Nat, k < len → Calls Try.prog 128 #[.slice a len cap, .int .i64 k] W fun e w' => e = .returned (.int .i64 (xs.getD k 0)) ∧ W = w') :=
    Lib.hid (fun W hB k hk => labelAt_any xs a b len cap k W hn (h.later hn hb0 hB) hk)
  have hm : ∀ w : World, (method 231 101 (.slice a len cap) "loop.example/g01160/impl.labelAt").run Try.prog w = .ok (128, .slice a len cap) w := fun _ => by kernel_rfl
  have HAA := Lib.hid (fun k (hk : k < len) => all4_at hA k (by omega))
  have HLS : Hid (len = sqn n) := Lib.hid (by omega)
  have hg1 := heap_alloc_new w (.cells (lqA n a len cap) 69)
  have hB1 := balloc (Below.refl w.heap.size w) (.cells (lqA n a len cap) 69)
  have hz1 : (w.alloc (.cells (lqA n a len cap) 69)).heap.size = w.heap.size + 1 := by simp
  have q0 : (w.alloc (.cells (lqA n a len cap) 69)).cell? ⟨w.heap.size, 0, none⟩ = some (.int .i64 n) := cell_of_row _ _ _ _ _ (0, 0) hg1
  have q1 : (w.alloc (.cells (lqA n a len cap) 69)).cell? ⟨w.heap.size, 1, none⟩ = some (.iface 101 (.slice a len cap)) := cell_of_row _ _ _ _ _ (0, 0) hg1
  clear hL h hl hn hA hg1
  generalize sqn n = s at hsl hsc HX HBE HLS
  have HSC := Lib.hid hsc
  clear hsc
  go_enter Try.func65, Try.ntmps65
  go_wp2_with fail
  generalize w.alloc (.cells (lqA n a len cap) 69) = w0 at hB1 hz1 q0 q1 ⊢
  go_wp2_with fail
  refine (sqBorder_any n h1 h2 _).mono ?_
  rintro e w1 ⟨v, rfl, ho1, hb1⟩
  obtain ⟨-, ba, bc, bb, rfl, hx, hrd⟩ := own_shape ho1
  have hbl := hx.imp_right fun h => own_lt ho1 bb (by rw [h]; rfl)
  have HRD := Lib.hid hrd
  have HBO := Lib.hid (bol_len n (8 * n))
  have p0 := (hb1.cell (p := ⟨w.heap.size, 0, none⟩) (by show w.heap.size < _; omega)).trans q0
  have p1 := (hb1.cell (p := ⟨w.heap.size, 1, none⟩) (by show w.heap.size < _; omega)).trans q1
  have hB11 := bnext hB1 hb1
  have hz11 : w.heap.size < w1.heap.size := by have := hb1.size; omega
  clear hrd hx ho1 q0 q1 hb1 hB1 hz1
  rw [HBO.out]
  go_wp2_with fail
  go_loopw [9] (fun v9 wr => ∃ k : Nat, k ≤ 8 * n ∧ v9 = .int .i64 k ∧ Hid (∀ j, j < k → oppo n xs j = true) ∧ Below w1.heap.size w1 wr) (fun v9 _ => 8 * n - (intOf v9).toNat)
  case atStart => exact ⟨0, Nat.zero_le _, rfl, Lib.hid (fun j hj => absurd hj (Nat.not_lt_zero _)), Below.refl _ _⟩
  case round =>
    obtain ⟨k, hk, rfl, hall, hb⟩ := hrel
    by_cases hlt : k < 8 * n
    · have hr1 := HRD.out.below hb hbl
      obtain ⟨rfl, c0⟩ := hr1.2 k (by rw [HBO.out]; exact hlt)
      rw [bol_at _ _ _ hlt, Nat.zero_add] at c0
      obtain ⟨i0, i1⟩ := HBE.out k hlt
      have HXK := Lib.hid (HX.out k)
      have hno := Lib.hid (HNO.out k hlt)
      have hst : Hid (oppo n xs k = true → ∀ j, j < k + 1 → oppo n xs j = true) := Lib.hid (fun h j hj => by
        by_cases e : j = k
        · rw [e]; exact h
        · exact hall.out j (by omega))
      have HW := Lib.hid (bnext hB11 hb)
      have hki : (k : Int) < ((8 * n : Nat) : Int) := by omega
      have u0 := (hb.cell (p := ⟨w.heap.size, 0, none⟩) (by show w.heap.size < _; omega)).trans p0
      have u1 := (hb.cell (p := ⟨w.heap.size, 1, none⟩) (by show w.heap.size < _; omega)).trans p1
      have hzr : w.heap.size < wr.heap.size := by have := hb.size; omega
      clear hr1 hbl hall
      generalize oppo n xs k = bo at HXK hno hst
      generalize bq n k = i at c0 i0 i1 HXK
      obtain ⟨i, rfl⟩ := Int.eq_ofNat_of_zero_le i0
      rw [Int.toNat_natCast] at HXK
      obtain ⟨q, hq⟩ : ∃ q, q = s - 1 - i := ⟨_, rfl⟩
      rw [← hq] at HXK
      have HQ : Hid (sqc (n : Int) = (q : Int) + i + 1) := Lib.hid (by rw [HSC.out]; omega)
      have A1 := HAA.out i (by have := HLS.out; omega)
      have A2 := HAA.out q (by have := HLS.out; omega)
      have DI := Lib.hid (fun W hB => HD.out W hB i (by have := HLS.out; omega))
      have DJ := Lib.hid (fun W hB => HD.out W hB q (by have := HLS.out; omega))
      generalize xs.getD i 0 = x at DI A1 HXK
      generalize xs.getD q 0 = y at DJ A2 HXK
      clear hq
      go_wp2_with fail
      refine wp_region_below (by kernel_rfl) (by kernel_rfl) ?_
      intro ι hne f hbf hcl
      have m0 : ∀ t, (f t).cell? ⟨w.heap.size, 0, none⟩ = some (.int .i64 n) := fun t => ((hbf t).cell (p := ⟨w.heap.size, 0, none⟩) hzr).trans u0
      have m1 : ∀ t, (f t).cell? ⟨w.heap.size, 1, none⟩ = some (.iface 101 (.slice a len cap)) := fun t => ((hbf t).cell (p := ⟨w.heap.size, 1, none⟩) hzr).trans u1
      have CI : ∀ t, Below w.heap.size w (f t) := fun t => HW.out.trans ((hbf t).mono (by have := HW.out.size; omega))
      repeat (go_big_quiet_step (first | (go_at_call 85; with_reducible refine (sqAcross_any n i q (by omega) (by omega) HQ.out _).mono ?_; rintro e w' ⟨rfl, hb⟩; exact ⟨rfl, hcl _ _ hb⟩) | (go_at_call 128; first | (with_reducible refine (DI.out _ (CI _)).mono ?_; rintro e w' ⟨rfl, rfl⟩; exact ⟨rfl, _, rfl⟩) | (with_reducible refine (DJ.out _ (CI _)).mono ?_; rintro e w' ⟨rfl, rfl⟩; exact ⟨rfl, _, rfl⟩))))
      refine wpQuiet_nil ?_
      rintro _ ⟨t, rfl⟩
      have hb2 := hb.trans ((hbf t).mono hb.size)
      generalize f t = w2 at hb2 ⊢
      clear m0 m1 hbf hcl hne u0 u1 hb CI
      cases hbo : bo
      · have HF := Lib.hid (hno.out hbo)
        have hne0 : (x + y != 0) = true := by
          have := HXK.out
          rw [hbo] at this
          rw [bne, ← this]; rfl
        go_wp2_with fail
        go_ret
        exact ⟨ret_bool HF.out.symm, bnext hB11 hb2⟩
      · have HT := Lib.hid (hst.out hbo)
        have hne0 : (x + y != 0) = false := by
          have := HXK.out
          rw [hbo] at this
          rw [bne, ← this]; rfl
        go_wp2_with fail
        go_roundw
        case rel => exact ⟨k + 1, by omega, by go_num, HT, hb2⟩
        case measure => simp [intOf]; omega
    · have HT := Lib.hid (HY.out (fun j hj => hall.out j (by omega)))
      go_wp2_with fail
      go_ret
      exact ⟨ret_bool HT.out.symm, bnext hB11 hb⟩
end Go.Proofs.Ytgpikaolgalpbaa
