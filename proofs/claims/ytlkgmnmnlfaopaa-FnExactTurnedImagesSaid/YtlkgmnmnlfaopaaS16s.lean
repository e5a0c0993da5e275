import Derived.Test.YtlkgmnmnlfaopaaZf
import Derived.Test.YtlkgmnmnlfaopaaS0b
namespace Go.Proofs.Ytlkgmnmnlfaopaa
open Go.RowKit
set_option maxRecDepth 4000
set_option maxHeartbeats 1600000 in
theorem lists3_spot (cs : List (List Int)) (b cap : Nat) (w : World) (hbl0 : b < w.heap.size) (hfl : cs.flatten.length = cs.length * 3) (hrd0 : ∀ j, j < cs.flatten.length → w.cell? ⟨b, j, none⟩ = some (.int .i64 (cs.flatten.getD j 0))) (hA : Thr cs) (hl : cs.length ≤ 100000) :
    Calls Try.prog 114 #[.slice (some ⟨b, 0, none⟩) cs.length cap] w fun e w' => ∃ v, e = .returned v ∧ CellsV w' w.heap.size v cs ∧ Below w.heap.size w w' := by
  obtain ⟨i0, hi, hz0, hz1, hz2⟩ := info_parts rowsInfo
  have HA := Lib.hid hA
  have HF := Lib.hid hfl
  have HRD := Lib.hid hrd0
  clear hA hfl hrd0
  go_enter Try.func114, Try.ntmps114
  go_wp2_with (at_make; refine wpList_make_full _ rfl _ _ 22 rfl w.heap.size 31 i0 (.slice none 0 0) 1 Try.underlying22 hi hz0 hz1 _ _ _ _ cs.length rfl rfl ?hC ?hL ?hb2 ?hb3 ?hb4 ?_)
  case hC => rfl
  case hL => rfl
  case hb2 => rw [hz2]; omega
  case hb3 => unfold maxLen; omega
  case hb4 => exact Nat.le_refl _
  intro w1 ho1 hg1
  have hc1 : CellsV w1 w.heap.size (.slice (some ⟨w.heap.size, 0, none⟩) cs.length cs.length) (rws cs 0) := by
    rw [rws_zero]
    refine cells_made ?_
    first | exact made_rows cs.length ▸ ho1 | exact made_rows' cs.length ▸ ho1
  have hB1 : Below w.heap.size w w1 := (Below.refl _ _).grown hg1 (Nat.le_refl _) (fun k hk => by cases hk)
  clear ho1 hg1
  go_wp2_with fail
  go_loopw [11] (fun v11 wr => ∃ k : Nat, k ≤ cs.length ∧ v11 = .int .i64 k ∧ CellsV wr w.heap.size (.slice (some ⟨w.heap.size, 0, none⟩) cs.length cs.length) (rws cs k) ∧ Below w.heap.size w wr) (fun v11 _ => cs.length - (intOf v11).toNat)
  case atStart => exact ⟨0, Nat.zero_le _, rfl, hc1, hB1⟩
  case round =>
    clear hc1 hB1
    obtain ⟨k, hk, rfl, hc, hb⟩ := hrel
    by_cases hlt : k < cs.length
    · have c0 := HRD.out (k * 3) (by have := HF.out; omega)
      have c1 := HRD.out (k * 3 + 1) (by have := HF.out; omega)
      have c2 := HRD.out (k * 3 + 2) (by have := HF.out; omega)
      have hbl : b < w.heap.size := hbl0
      have d0 := (hb.cell (p := ⟨b, k * 3, none⟩) hbl).trans c0
      have d1 := (hb.cell (p := ⟨b, k * 3 + 1, none⟩) hbl).trans c1
      have d2 := (hb.cell (p := ⟨b, k * 3 + 2, none⟩) hbl).trans c2
      obtain ⟨g, old, hg, hgb, hgl, hold, hfr, hput⟩ := cells_put hc k (by rw [rws_len]; exact hlt)
      simp only [Option.some.injEq, Addr.mk.injEq, and_true] at hg
      subst hg
      have hE := HA.out k hlt
      have HE := Lib.hid (rws_set cs k hlt)
      rw [hE] at HE
      have HP := Lib.hid hput
      have hki : (k : Int) < (cs.length : Int) := by omega
      clear hput hc c0 c1 c2 hE
      generalize cs.flatten.getD (k * 3) 0 = x at d0 HE
      generalize cs.flatten.getD (k * 3 + 1) 0 = y at d1 HE
      generalize cs.flatten.getD (k * 3 + 2) 0 = z at d2 HE
      obtain ⟨wi, hwi⟩ : ∃ wi : World, wi = wr := ⟨_, rfl⟩
      subst hwi
      go_wp2_with fail
      refine (clone_three x y z wi.heap.size _ (by simp) ⟨by simp [maxLen], fun j hj => ⟨rfl, ?_⟩⟩).mono ?_
      · rw [cell_of_row _ _ _ _ _ (0, 0) (heap_alloc_new wi _)]
        match j, hj with
        | 0, hj => rfl
        | 1, hj => rfl
        | 2, hj => rfl
        | j + 3, hj => exact absurd hj (by simp)
      rintro e w3 ⟨u, rfl, hu, hb3⟩
      obtain ⟨-, ua, uc, ub, rfl, -, -⟩ := own_shape (xs := [x, y, z]) hu
      have hB3 := bnext (balloc (Below.refl wi.heap.size wi) (.cells #[.int .i64 x, .int .i64 y, .int .i64 z] 79)) hb3
      have hold2 : w3.cell? ⟨w.heap.size, k, none⟩ = some old := (hB3.cell (p := ⟨w.heap.size, k, none⟩) hgl).trans hold
      have hfr2 : w3.frozen? ⟨w.heap.size, k, none⟩ = false := (hB3.frozen (p := ⟨w.heap.size, k, none⟩) hgl).trans hfr
      have hcv := HP.out w3 (.slice ua 3 uc) [x, y, z] hB3 (own_lo hu (by simp))
      have hbv := (hb.trans (hB3.mono hb.size)).setCell (p := ⟨w.heap.size, k, none⟩) (Nat.le_refl _) (.slice ua 3 uc)
      clear d0 d1 d2 hb hu hb3 hold hfr
      go_wp2_with fail
      go_roundw
      case rel => exact ⟨k + 1, by omega, by go_num, by rw [← HE.out]; exact hcv, hbv⟩
      case measure => simp [intOf]; omega
    · have hk2 : k = cs.length := by omega
      rw [hk2, rws_all] at hc
      clear hk2
      go_wp2_with fail
      go_ret
      exact ⟨_, rfl, hc, hb⟩
end Go.Proofs.Ytlkgmnmnlfaopaa
