import Derived.Test.YtgblcohgnagpcaaYb
namespace Go.Proofs.Ytgblcohgnagpcaa
open Go.RowKit
set_option maxRecDepth 4000
set_option maxHeartbeats 1600000 in
theorem sqCells_any (n : Nat) (h1 : 1 ≤ n) (h2 : n ≤ 4) (w : World) :
    Calls Try.prog 59 #[.agg #[.int .i64 n]] w fun e w' => ∃ v, e = .returned v ∧ TrioV w' w.heap.size v (sci n (sqn n)) ∧ Below w.heap.size w w' := by
  obtain ⟨i0, hi, hz0, hz1, hz2⟩ := info_parts trioInfo
  have hsl := sqn_le n h2
  have hse := sqn_eq n
  have HC : ∀ w : World, Calls Try.prog 69 #[.agg #[.int .i64 n]] w fun e w' => e = .returned (.int .i64 (sqn n : Nat)) ∧ Below w.heap.size w w' := fun w => by rw [← sqn_eq]; exact sqSize_any n (by omega) (by omega) w
  have HY : ∀ i : Nat, i < sqn n → -(n : Int) ≤ ay n i ∧ ay n i ≤ n := fun i hi => ay_bd (by omega) (by omega) (by omega) (by rw [hse]; omega)
  generalize hS : sqn n = s at hsl HC HY ⊢
  have HC := Lib.hid HC
  have HY := Lib.hid HY
  clear hS hse
  have hnn : 8 * n * n ≤ 8 * 4 * 4 := Nat.mul_le_mul (by omega) h2
  have hmul : wrap64 (8 * (n : Int) * (n : Int)) = ((8 * n * n : Nat) : Int) := by
    have e : ((8 * n * n : Nat) : Int) = 8 * (n : Int) * (n : Int) := by simp
    rw [← e, IntWalk.wrap64_in _ ⟨by omega, by omega⟩]
  generalize 8 * n * n = q at hnn hmul
  have hw0 := balloc (Below.refl w.heap.size w) (.cells #[.int .i64 n] 73)
  go_enter Try.func59, Try.ntmps59
  go_wp2_with (at_make; refine wpList_make_own _ rfl _ _ 70 rfl (w.heap.size + 1) 65 i0 _ 3 Try.underlying70 hi hz0 hz1 _ _ _ q rfl rfl ?hC ?hb2 ?hb3 ?hb4 ?_)
  case hC => exact hmul
  case hb2 => rw [hz2]; omega
  case hb3 => unfold maxLen; omega
  case hb4 => simp
  intro w1 ho1 hg1
  have hm1 : w1.cell? ⟨w.heap.size, 0, none⟩ = some (.int .i64 n) := hg1.cell (v := .int .i64 n) (by go_cell) (by simp)
  have hB1 : Below (w.heap.size + 1) (w.alloc (.cells #[.int .i64 n] 73)) w1 := (Below.refl _ _).grown hg1 (by simp) (fun k hk => by cases hk)
  have ho1' : TrioV w1 (w.heap.size + 1) (.slice (some ⟨w.heap.size + 1, 0, none⟩) 0 q) (sci n 0) := by simpa [TrioV, sci] using ho1
  have hz1' : w.heap.size < w1.heap.size := by have := hB1.size; simp at this; omega
  clear ho1 hg1 hmul
  generalize hv3 : Value.slice (some ⟨w.heap.size + 1, 0, none⟩) 0 q = vv at ho1'
  clear hv3
  go_wp2_with fail
  refine (HC.out _).mono ?_
  rintro e w2 ⟨rfl, hb2⟩
  have hm2 := (hb2.cell (p := ⟨w.heap.size, 0, none⟩) hz1').trans hm1
  have hB2 : Below (w.heap.size + 1) (w.alloc (.cells #[.int .i64 n] 73)) w2 := hB1.trans (hb2.mono (by have := hB1.size; simp at this; omega))
  have ho2 : TrioV w2 (w.heap.size + 1) vv (sci n 0) := own_now ho1' hb2
  clear hm1 hB1 ho1' hb2 hz1'
  go_wp2_with fail
  go_loopw [3, 19] (fun v3 v19 wr => ∃ i : Nat, i ≤ s ∧ v19 = .int .i64 i ∧ TrioV wr (w.heap.size + 1) v3 (sci n i) ∧ wr.cell? ⟨w.heap.size, 0, none⟩ = some (.int .i64 n) ∧ Below (w.heap.size + 1) (w.alloc (.cells #[.int .i64 n] 73)) wr) (fun _ v19 _ => s - (intOf v19).toNat)
  case atStart => exact ⟨0, Nat.zero_le _, rfl, ho2, hm2, hB2⟩
  case round =>
    clear ho2 hm2 hB2
    obtain ⟨i, hi, rfl, hc, hm, hb⟩ := hrel
    obtain ⟨wo, rfl⟩ : ∃ wo : World, wo = wr := ⟨_, rfl⟩
    have HS := Lib.hid (sci_succ n i)
    have hz := hb.size
    simp only [World.size_alloc] at hz
    by_cases hlt : i < s
    · have hlti : (i : Int) < (s : Int) := by omega
      have hbd : (sci n i).length < 1000000000 := by have := sci_len n i; omega
      have HBD := Lib.hid hbd
      obtain ⟨x1, x2⟩ := ax_bd (n := n) (i := i) (by omega) (by omega)
      obtain ⟨y1, y2⟩ := HY.out i hlt
      clear hbd
      go_wp2_with fail
      refine (sqAt_any n i (by omega) (by omega) (by omega) (by omega) _).mono ?_
      rintro e w3 ⟨rfl, hb3⟩
      have hm3 := (hb3.cell (p := ⟨w.heap.size, 0, none⟩) (by show w.heap.size < wo.heap.size; omega)).trans hm
      have hz3 := hb3.size
      have hc3 : TrioV w3 (w.heap.size + 1) _ (sci n i) := own_now hc hb3
      have hB3 : Below (w.heap.size + 1) (w.alloc (.cells #[.int .i64 n] 73)) w3 := hb.trans (hb3.mono hz)
      clear hm hc hb hb3
      by_cases hxy : ax n i < n ∧ ay n i < n
      · have e1 := Lib.hid (show sci n (i + 1) = sci n i ++ [[(i : Int), (i : Int) + 1, (i : Int) + (2 * n + 1) + 1], [(i : Int), (i : Int) + (2 * n + 1), (i : Int) + (2 * n + 1) + 1]] by rw [HS.out]; unfold sc1; rw [if_pos hxy])
        obtain ⟨hx, hy⟩ := hxy
        generalize ax n i = x at *
        generalize ay n i = y at *
        go_wp2_with fail
        refine (sqHas_yes n (x + 1) (y + 1) (by omega) (by omega) (by omega) (by omega) (by omega) (by omega) _).mono ?_
        rintro e w4 ⟨rfl, hb4⟩
        have hm4 := (hb4.cell (p := ⟨w.heap.size, 0, none⟩) (by show w.heap.size < w3.heap.size; omega)).trans hm3
        have hz4 := hb4.size
        have hc4 : TrioV w4 (w.heap.size + 1) _ (sci n i) := own_now hc3 hb4
        have hB4 : Below (w.heap.size + 1) (w.alloc (.cells #[.int .i64 n] 73)) w4 := hB3.trans (hb4.mono (by omega))
        clear hm3 hc3 hB3 hb4
        have hl4 : w.heap.size < w4.heap.size := by omega
        go_wp2_with fail
        refine wp_region_below (by kernel_rfl) (by kernel_rfl) ?_
        intro ι hne f hbf hcl
        have hm : ∀ i, (f i).cell? ⟨w.heap.size, 0, none⟩ = some (.int .i64 n) := fun i => ((hbf i).cell (p := ⟨w.heap.size, 0, none⟩) hl4).trans hm4
        repeat (go_big_quiet_step (first | (go_at_call 72; with_reducible refine (sqWidth_any n (2 * n + 1) (by omega) (by omega) rfl _).mono ?_; rintro e w' ⟨rfl, hb⟩; exact ⟨rfl, hcl _ _ hb⟩)))
        refine wpQuiet_nil ?_
        rintro _ ⟨j, rfl⟩
        have hb5 := hbf j
        generalize f j = w5 at hb5 ⊢
        have hm5 := (hb5.cell (p := ⟨w.heap.size, 0, none⟩) hl4).trans hm4
        have hc5 : TrioV w5 (w.heap.size + 1) _ (sci n i) := own_now hc4 hb5
        have hz5 : w.heap.size + 1 ≤ w5.heap.size := by have := hb5.size; omega
        have hB5 : Below (w.heap.size + 1) (w.alloc (.cells #[.int .i64 n] 73)) w5 := hB4.trans (hb5.mono (by omega))
        clear hm hbf hcl hne hm4 hc4 hB4 hb5
        go_wp2_with (at_builtin; refine append_trio2 (w.heap.size + 1) _ w5 _ (sci n i) _ _ _ _ _ _ rfl _ _ rfl rfl rfl (by simp) hc5 hz5 HBD.out ?_; intro v' w6 hc6 hb6)
        have hm6 := (hb6.cell (p := ⟨w.heap.size, 0, none⟩) (by show w.heap.size < w.heap.size + 1; omega)).trans hm5
        go_roundw
        case rel => exact ⟨i + 1, by omega, by go_num, by rw [e1.out]; exact hc6, hm6, hB5.trans hb6⟩
        case measure => simp [intOf]; omega
      · have e1 := Lib.hid (show sci n (i + 1) = sci n i by rw [HS.out]; unfold sc1; rw [if_neg hxy, List.append_nil])
        generalize ax n i = x at *
        generalize ay n i = y at *
        go_wp2_with fail
        refine (sqHas_no n (x + 1) (y + 1) (by omega) (by omega) (by omega) _).mono ?_
        rintro e w4 ⟨rfl, hb4⟩
        have hm4 := (hb4.cell (p := ⟨w.heap.size, 0, none⟩) (by show w.heap.size < w3.heap.size; omega)).trans hm3
        have hc4 : TrioV w4 (w.heap.size + 1) _ (sci n i) := own_now hc3 hb4
        have hB4 : Below (w.heap.size + 1) (w.alloc (.cells #[.int .i64 n] 73)) w4 := hB3.trans (hb4.mono (by omega))
        clear hm3 hc3 hB3 hb4
        go_wp2_with fail
        go_roundw
        case rel => exact ⟨i + 1, by omega, by go_num, by rw [e1.out]; exact hc4, hm4, hB4⟩
        case measure => simp [intOf]; omega
    · have hk2 : i = s := by omega
      rw [hk2] at hc
      clear hk2
      obtain ⟨-, va, vn, vc, rfl, -⟩ := trio_shape hc
      go_wp2_with fail
      go_ret
      exact ⟨_, rfl, own_lo hc (by omega), hw0.trans (hb.mono (by omega))⟩
end Go.Proofs.Ytgblcohgnagpcaa
