import Derived.Test.YtjbdhgomcchoaaaOd
import Derived.Test.YtjbdhgomcchoaaaBd
namespace Go.Proofs.Ytjbdhgomcchoaaa
open Go.RowKit
theorem be_lt : ∀ n, n < 9 → ∀ q, q < 3 * n → be n q < Pr.cnt n := by decide +kernel
/-- A step of the border. -/
def bp (n k : Nat) : Int × Int := (((be n k : Nat) : Int), ((be n ((k + 1) % (3 * n)) : Nat) : Int))
def bps (n m : Nat) : List (Int × Int) := (List.range m).map (bp n)
theorem bps_succ (n m : Nat) : bps n (m + 1) = bps n m ++ [bp n m] := by simp [bps, List.range_succ]
theorem bps_len (n m : Nat) : (bps n m).length = m := by simp [bps]
theorem bor_at (n m k : Nat) (hk : k < m) : (bor n m).getD k 0 = ((be n k : Nat) : Int) := by
  simp [bor, List.getD, hk]
theorem rem_nat (k m : Nat) : Int.tmod ((k : Int) + 1) ((m : Nat) : Int) = (((k + 1) % m : Nat) : Int) := by
  rw [show (k : Int) + 1 = ((k + 1 : Nat) : Int) by omega, Int.ofNat_tmod]
set_option maxHeartbeats 1600000 in
theorem doBorder_any (n : Nat) (xs : List Int) (a : Option Addr) (b len cap : Nat) (w : World) (hn : xs.length = len) (h : Rd w a b 0 xs) (hb0 : len = 0 ∨ b < w.heap.size) (hL : labB n xs = true) :
    Calls Try.prog 66 #[.int .i64 n, .slice a len cap] w fun e w' => ∃ v, e = .returned v ∧ CellsV w' w.heap.size v (outp xs (bps n (3 * n))) ∧ Below w.heap.size w w' := by
  obtain ⟨h1, h2, hl, hA⟩ := labB_yes hL
  have HD := Lib.hid (fun i j w' (hb : Below w.heap.size w w') (hi : i < xs.length) (hj : j < xs.length) => doDoor_any xs i j a b len cap w' hn (h.later hn hb0 hb) hA hi hj)
  have HBE := Lib.hid (fun q (hq : q < 3 * n) => (by have := be_lt n (by omega) q hq; omega : be n q < xs.length))
  clear h hL hA hl hn
  go_enter Try.func66, Try.ntmps66
  go_wp2_with fail
  refine (meBorder_any n h2 _).mono ?_
  rintro e w1 ⟨v, rfl, ho1, hb1⟩
  obtain ⟨hlen, ba, bc, bb, rfl, hx, hrd⟩ := own_shape ho1
  have hbl := hx.imp_right fun h => own_lt ho1 bb (by rw [h]; rfl)
  have HRD := Lib.hid hrd
  have hbo := bor_len n (3 * n)
  rw [hbo] at ho1
  have HBO := Lib.hid hbo
  clear hlen hrd hx ho1
  rw [HBO.out]
  go_wp2_with fail
  go_loopw [6, 14] (fun v6 v14 wr => ∃ k : Nat, k ≤ 3 * n ∧ v14 = .int .i64 k ∧ CellsV wr w1.heap.size v6 (outp xs (bps n k)) ∧ Below w1.heap.size w1 wr) (fun _ v14 _ => 3 * n - (intOf v14).toNat)
  case atStart => exact ⟨0, Nat.zero_le _, rfl, cells_nil _ _, Below.refl _ _⟩
  case round =>
    obtain ⟨k, hk, rfl, hcv, hb⟩ := hrel
    by_cases hlt : k < 3 * n
    · have hr1 := HRD.out.below hb hbl
      obtain ⟨rfl, c0⟩ := hr1.2 k (by rw [HBO.out]; exact hlt)
      have hmod : (k + 1) % (3 * n) < 3 * n := Nat.mod_lt _ (by omega)
      have c1 := (hr1.2 ((k + 1) % (3 * n)) (by rw [HBO.out]; exact hmod)).2
      rw [bor_at _ _ _ hlt, Nat.zero_add] at c0
      rw [bor_at _ _ _ hmod, Nat.zero_add] at c1
      have hi := HBE.out k hlt
      have hj := HBE.out _ hmod
      have hrem := rem_nat k (3 * n)
      have hmi2 : ((k : Int) + 1) % (3 * (n : Int)) < 3 * (n : Int) := Int.emod_lt_of_pos _ (by omega)
      have hmi3 : 0 ≤ ((k : Int) + 1) % (3 * (n : Int)) := Int.emod_nonneg _ (by omega)
      have HS : Hid (bps n (k + 1) = bps n k ++ [(((be n k : Nat) : Int), ((be n ((k + 1) % (3 * n)) : Nat) : Int))]) := Lib.hid (bps_succ n k)
      have hbl2 := bps_len n k
      have hol := outp_len xs (bps n k)
      have hki : (k : Int) < ((3 * n : Nat) : Int) := by omega
      have hmi : (((k + 1) % (3 * n) : Nat) : Int) < ((3 * n : Nat) : Int) := by omega
      have HW := Lib.hid (bnext hb1 hb)
      clear hr1 hbl
      generalize be n k = i at c0 hi HS
      generalize be n ((k + 1) % (3 * n)) = j at c1 hj HS
      obtain ⟨wi, hwi⟩ : ∃ wi : World, wi = wr := ⟨_, rfl⟩
      subst hwi
      go_wp2_with fail
      refine (HD.out i j _ HW.out hi hj).mono ?_
      rintro e w2 ⟨rfl, mm, rfl⟩
      have hB2 := below_drewN hb mm
      have hc2 : CellsV (wi.drewN mm) w1.heap.size u6 (outp xs (bps n k)) := cells_now hcv (below_drewN (Below.refl _ _) mm)
      have hz2 := hB2.size
      clear hcv hb c0 c1
      generalize wi.drewN mm = w3 at hB2 hc2 hz2 ⊢
      cases hN : doorB xs i j
      · have e := Lib.hid (outp_no xs (bps n k) i j hN)
        rw [← HS.out] at e
        clear hN
        go_wp2_with fail
        go_roundw
        case rel => exact ⟨k + 1, by omega, by go_num, by rw [e.out]; exact hc2, hB2⟩
        case measure => simp [intOf]; omega
      · have e := Lib.hid (outp_yes xs (bps n k) i j hN)
        rw [← HS.out] at e
        clear hN
        have hbw := balloc (Below.refl w3.heap.size w3) (.cells #[.int .i64 i, .int .i64 j] 3)
        have hu : (w3.alloc (.cells #[.int .i64 i, .int .i64 j] 3)).ownsRow w3.heap.size 3 1 (.slice (some ⟨w3.heap.size, 0, none⟩) 2 2) [(i : Int), (j : Int)].length ([(i : Int), (j : Int)].map (Value.int .i64)) :=
          own_block (Nat.le_refl _) (heap_alloc_new _ _) (by simp) rfl (by simp [maxLen])
        go_wp2_with (at_builtin; refine append_row w1.heap.size _ w3 _ _ _ (outp xs (bps n k)) _ rfl _ _ rfl rfl rfl (by simp) hc2 hbw hu rfl hz2 (by omega) ?_; intro v' w5 hc5 hb5)
        go_roundw
        case rel => exact ⟨k + 1, by omega, by go_num, by rw [e.out]; exact hc5, (balloc hB2 _).trans hb5⟩
        case measure => simp [intOf]; omega
    · have hk2 : k = 3 * n := by omega
      rw [hk2] at hcv
      clear hk2
      obtain ⟨sa, sm, sc, rfl⟩ := cells_shape hcv
      go_wp2_with fail
      go_ret
      exact ⟨_, rfl, cells_base hcv hb1.size, bnext hb1 hb⟩
end Go.Proofs.Ytjbdhgomcchoaaa
