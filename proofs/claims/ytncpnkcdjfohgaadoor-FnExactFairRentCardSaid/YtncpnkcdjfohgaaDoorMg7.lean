import Derived.RegionTactic
import Derived.Test.YtncpnkcdjfohgaaDoorMg0
import Derived.Test.YtncpnkcdjfohgaaDoorMf1
namespace Go.Proofs.YtncpnkcdjfohgaaDoor
open Go.RowKit
set_option maxRecDepth 4000
set_option maxHeartbeats 3200000 in
theorem rentLoop_any (n : Nat) (h1 : 1 ≤ n) (h2 : n ≤ 8) (ts : List (List Int)) (hy : rowsB 3 20 ts = true) (j : Nat) (hj : IsB (dlF (rnW ts n)) (6 * Pr.cnt n) j) (a : Option Addr) (cap : Nat) (w : World) (h : RdSS w w.heap.size a ts) :
    Calls Tryd.prog 19 #[.int .i64 n, .slice a ts.length cap] w fun e w' => ∃ v, e = .returned (.tuple #[.int .i64 ((j / 6 : Nat) : Int), v, .bool true]) ∧ OI w' w.heap.size w'.heap.size v (shL (j % 6)) ∧ Below w.heap.size w w' := by
  have hcn := (Pr.cnt_le n (by omega)).1
  have HM := Lib.hid (fun w => meCount_any n (by omega) w)
  have HW := Lib.hid (fun i hi w h => ckCosts_any n i h1 h2 hi ts hy a cap w h)
  have HR : Hid (∀ i, i < Pr.cnt n → Rows3 (rnts ts n i) (rnW ts n i)) := Lib.hid (fun i hi => rnts_rows hy n i h2 hi)
  have HRD := Lib.hid h
  have HJ := Lib.hid hj
  have HT := Lib.hid (ckRooms_any ts a cap _ w h)
  rw [hy] at HT
  clear h hj hy
  go_enter Tryd.func19, Tryd.ntmps19
  go_wp2_with fail
  refine (meSide_yes n h1 h2 _).mono ?_
  rintro e w' ⟨rfl, rfl⟩
  go_wp2_with fail
  refine HT.out.mono ?_
  rintro e w' ⟨rfl, rfl⟩
  go_wp2_with fail
  go_loopw [7, 8, 9, 10] (fun v7 v8 v9 v10 wr => ∃ (i : Nat) (t l : Int), i ≤ Pr.cnt n ∧ v10 = .int .i64 i ∧ v7 = .int .i64 t ∧ v8 = .int .i64 l ∧ DSt (dlF (rnW ts n)) wr w.heap.size (6 * i) t l v9 ∧ Below w.heap.size w wr) (fun _ _ _ v10 _ => Pr.cnt n - (intOf v10).toNat)
  case atStart => exact ⟨0, 0, -1, Nat.zero_le _, rfl, rfl, rfl, .inl ⟨rfl, rfl, rfl, rfl⟩, Below.refl _ _⟩
  case round =>
    obtain ⟨i, t, l, hi, rfl, rfl, rfl, hst, hb⟩ := hrel
    obtain ⟨wq, rfl⟩ : ∃ wq : World, wq = wr := ⟨_, rfl⟩
    have HST := Lib.hid hst
    clear hst
    by_cases hlt : i < Pr.cnt n
    · have hii : (i : Int) < (Pr.cnt n : Nat) := by omega
      go_wp2_with fail
      refine (HM.out _).mono ?_
      rintro e w' ⟨rfl, rfl⟩
      go_wp2_with fail
      refine (ckAll_any _).mono ?_
      rintro e w1 ⟨rfl, hal, hb1, hz1⟩
      have HAL := Lib.hid hal
      have HST1 := Lib.hid (HST.out.later hb1)
      have hB1 := bnext hb hb1
      have HWI := Lib.hid (fun w h => HW.out i hlt w h)
      have HRI := Lib.hid (HR.out i hlt)
      clear hal HST hb1
      have hq := hb.size
      go_wp2_with fail
      go_loopw [7, 8, 9, 30] (fun v7 v8 v9 v22 wr => ∃ (k : Nat) (t l : Int), k ≤ 6 ∧ v22 = .int .i64 k ∧ v7 = .int .i64 t ∧ v8 = .int .i64 l ∧ DSt (dlF (rnW ts n)) wr w.heap.size (6 * i + k) t l v9 ∧ AlV wr wq.heap.size ∧ Below w.heap.size w wr ∧ wq.heap.size + 7 ≤ wr.heap.size) (fun _ _ _ v22 _ => 6 - (intOf v22).toNat)
      case atStart => exact ⟨0, t, l, by omega, rfl, rfl, rfl, HST1.out, HAL.out, hB1, by omega⟩
      case round =>
        clear HST1 HAL hB1 hz1 hb
        obtain ⟨k, t, l, hk, rfl, rfl, rfl, hst, hal, hb, hz⟩ := hrel
        obtain ⟨wi, rfl⟩ : ∃ wi : World, wi = wr := ⟨_, rfl⟩
        have HST := Lib.hid hst
        have HAL := Lib.hid hal
        clear hst hal
        by_cases hltk : k < 6
        · have hki : (k : Int) < 6 := by omega
          have c1 := (HAL.out k hltk).1
          go_wp2_with fail
          refine (HWI.out wi (rdss_mono (rdss_later HRD.out hb) hb.size)).mono ?_
          rintro e w2 ⟨v, rfl, hc, hb2⟩
          have hB2 := bnext hb hb2
          have hz2 := hb2.size
          obtain ⟨a2, c2, rfl, hrd2⟩ := oss_shape (oss_new hc)
          have HAL2 := Lib.hid (alv_later HAL.out hz hb2)
          have HST2 := Lib.hid (HST.out.later hb2)
          clear c1 HAL HST
          go_wp2_with fail
          refine (ckEnvy_any (rnts ts n i) _ HRI.out k hltk (envK (rnW ts n i) k) (envK_mx _ k) a2 _ c2 3 _ w2.heap.size w2 hrd2 ⟨_, _, alv_rd HAL2.out k hltk, .inr (by omega)⟩).mono ?_
          rintro e w' ⟨rfl, rfl⟩
          have he : envK (rnW ts n i) k = -(dlF (rnW ts n) (6 * i + k)) := by rw [dlF_at _ _ _ hltk]; omega
          have HOI := Lib.hid (show OI w2 w.heap.size w2.heap.size (.slice (some ⟨wq.heap.size + k, 0, none⟩) 3 3) (shL ((6 * i + k) % 6)) by rw [show (6 * i + k) % 6 = k by omega]; exact alv_oi HAL2.out hq k hltk)
          have HUP := Lib.hid (fun hc => HST2.out.up (dlF_neg _) he hc HOI.out)
          have HSTAY := Lib.hid (fun h1 h2 => HST2.out.stay he h1 h2)
          rw [show (6 * i + k) / 6 = i by omega] at HUP
          clear he HOI HST2
          generalize envK (rnW ts n i) k = e at *
          by_cases h1 : l < 0
          · have HN := Lib.hid (HUP.out (.inl h1))
            clear HUP HSTAY
            go_wp2_with fail
            go_roundw
            case rel => exact ⟨k + 1, i, e, by omega, by go_num, rfl, rfl, HN.out, HAL2.out, hB2, by omega⟩
            case measure => simp [intOf]; omega
          · by_cases h2 : e < l
            · have HN := Lib.hid (HUP.out (.inr h2))
              clear HUP HSTAY
              go_wp2_with fail
              go_roundw
              case rel => exact ⟨k + 1, i, e, by omega, by go_num, rfl, rfl, HN.out, HAL2.out, hB2, by omega⟩
              case measure => simp [intOf]; omega
            · have HN := Lib.hid (HSTAY.out h1 h2)
              clear HUP HSTAY
              go_wp2_with fail
              go_roundw
              case rel => exact ⟨k + 1, t, l, by omega, by go_num, rfl, rfl, HN.out, HAL2.out, hB2, by omega⟩
              case measure => simp [intOf]; omega
        · obtain rfl : k = 6 := by omega
          have HN := Lib.hid HST.out
          clear HST
          go_wp2_with fail
          go_roundw
          case rel => exact ⟨i + 1, t, l, by omega, by go_num, rfl, rfl, by rw [show 6 * (i + 1) = 6 * i + 6 by omega]; exact HN.out, hb⟩
          case measure => simp [intOf]; omega
    · obtain rfl : i = Pr.cnt n := by omega
      obtain ⟨rfl, rfl, ho⟩ := HST.out.done HJ.out
      have HO := Lib.hid ho
      clear ho HST
      go_wp2_with fail
      refine (HM.out _).mono ?_
      rintro e w' ⟨rfl, rfl⟩
      go_wp2_with fail
      go_returns
      exact ⟨_, rfl, HO.out, hb⟩
end Go.Proofs.YtncpnkcdjfohgaaDoor
