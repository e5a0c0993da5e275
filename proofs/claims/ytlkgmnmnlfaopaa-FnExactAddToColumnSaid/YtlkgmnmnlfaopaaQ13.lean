import Derived.LoopN
import Derived.BigRegion
import Derived.BigQuiet
import Derived.RegionTactic
import Derived.Test.YtlkgmnmnlfaopaaQ12
import Derived.Test.YtlkgmnmnlfaopaaZa
import Derived.Test.YtlkgmnmnlfaopaaQz
namespace Go.Proofs.Ytlkgmnmnlfaopaa
open Go.RowKit
set_option maxRecDepth 4000
theorem szI : (Try.prog.info? 3).map (·.size) = some 1 := by kernel_rfl
set_option maxHeartbeats 3200000 in
theorem rowsBy1_any (a b : Nat) (ha : a ≤ 100) (hb : b ≤ 100) (f : Nat → Nat → Int) (fid : FuncId) (c1 : Value) (hcf : ∀ (args : Array Value) (w : World), (callFunc fid args).run Try.prog w = .ok (.enter fid args) w) (w : World)
    (hcl : ∀ i j, i < a → j < b → ∀ w', Below w.heap.size w w' → Calls Try.prog fid #[.int .i64 i, .int .i64 j, c1] w' fun e w'' => e = .returned (.int .i64 (f i j)) ∧ Below w'.heap.size w' w'') :
    Calls Try.prog 107 #[.int .i64 a, .int .i64 b, .func (.func fid) #[] #[c1]] w fun e w' => ∃ v, e = .returned v ∧ CellsV w' w.heap.size v (gridL a b f) ∧ Below w.heap.size w w' := by
  have HCL := Lib.hid hcl
  clear hcl
  obtain ⟨i0, hi, hz0, hz1, hz2⟩ := info_parts rowsInfo
  obtain ⟨i1, hi', hz0', hz1', hz2'⟩ := info_parts intInfo
  have HLEN := Lib.hid (fun k h => rwk_len' a b f k h)
  have HSET := Lib.hid (rwk_set a b f)
  have HEND := Lib.hid (rwk_end a b f)
  have HZER := Lib.hid (rwk_zero a b f)
  go_enter Try.func107, Try.ntmps107
  go_wp2_with (at_make; refine wpList_make_full _ rfl _ _ 22 rfl w.heap.size 31 i0 (.slice none 0 0) 1 Try.underlying22 hi hz0 hz1 _ _ _ _ a rfl rfl ?hC ?hL ?hb2 ?hb3 ?hb4 ?_)
  case hC => rfl
  case hL => rfl
  case hb2 => rw [hz2]; omega
  case hb3 => unfold maxLen; omega
  case hb4 => exact Nat.le_refl _
  intro w1 ho1 hg1
  have hc1 : CellsV w1 w.heap.size (.slice (some ⟨w.heap.size, 0, none⟩) a a) (rwk a b f 0) := by
    rw [HZER.out]
    refine cells_made ?_
    first | exact made_rows a ▸ ho1 | exact made_rows' a ▸ ho1
  have hB1 : Below w.heap.size w w1 := (Below.refl _ _).grown hg1 (Nat.le_refl _) (fun k hk => by cases hk)
  clear ho1 hg1
  go_wp2_with fail
  go_loopw [14] (fun v14 wr => ∃ k : Nat, k ≤ a ∧ v14 = .int .i64 k ∧ CellsV wr w.heap.size (.slice (some ⟨w.heap.size, 0, none⟩) a a) (rwk a b f k) ∧ Below w.heap.size w wr) (fun v14 _ => a - (intOf v14).toNat)
  case atStart => exact ⟨0, Nat.zero_le _, rfl, hc1, hB1⟩
  case round =>
    clear hc1 hB1
    obtain ⟨k, hk, rfl, hc, hb1⟩ := hrel
    obtain ⟨wq, rfl⟩ : ∃ wq : World, wq = wr := ⟨_, rfl⟩
    by_cases hlt : k < a
    · obtain ⟨g, old, hg, hgb, hgl, hold, hfr, hput⟩ := cells_put hc k (by rw [HLEN.out k hk]; exact hlt)
      simp only [Option.some.injEq, Addr.mk.injEq, and_true] at hg
      subst hg
      have hki : (k : Int) < (a : Int) := by omega
      have HP := Lib.hid hput
      have HSk := Lib.hid (HSET.out k hlt)
      have HLk := Lib.hid (HLEN.out k hk)
      have HCLk := Lib.hid (fun j hj => HCL.out k j hlt hj)
      have hzq := hb1.size
      clear hput hc
      go_wp2_with (at_make; refine wpList_make_full _ rfl _ _ 31 rfl wq.heap.size 3 i1 (.int .i64 0) 1 Try.underlying31 hi' hz0' hz1' _ _ _ _ b rfl rfl ?hC ?hL ?hb2 ?hb3 ?hb4 ?_)
      case hC => rfl
      case hL => rfl
      case hb2 => rw [hz2']; omega
      case hb3 => unfold maxLen; omega
      case hb4 => exact Nat.le_refl _
      intro w2 ho2 hg2
      have hb2 : Below wq.heap.size wq w2 := (Below.refl _ _).grown hg2 (Nat.le_refl _) (fun k hk => by cases hk)
      obtain ⟨R, hR⟩ : ∃ R, R = rowL b (f k) := ⟨_, rfl⟩
      have hRl : R.length = b := by rw [hR]; exact rowL_len _ _
      have ho3 : w2.ownsRow wq.heap.size 3 1 (.slice (some ⟨wq.heap.size, 0, none⟩) (cpy R 0).length b) (cpy R 0).length ((cpy R 0).map (Value.int .i64)) := by
        rw [cpy_len _ _ (Nat.zero_le _), hRl, cpy_zero, List.map_replicate, hRl]
        first | exact made_ints b ▸ ho2 | exact made_ints' b ▸ ho2
      have hold2 := (hb2.cell (p := ⟨w.heap.size, k, none⟩) hgl).trans hold
      have hfr2 := (hb2.frozen (p := ⟨w.heap.size, k, none⟩) hgl).trans hfr
      have hcv := HP.out w2 _ _ hb2 ho3
      rw [cpy_len _ _ (Nat.zero_le _), hRl] at hcv
      have HBZ := Lib.hid ((hb1.trans (hb2.mono hzq)).setCell (p := ⟨w.heap.size, k, none⟩) (Nat.le_refl _) (.slice (some ⟨wq.heap.size, 0, none⟩) b b))
      have HCV := Lib.hid hcv
      have hcl0 : (w2.setCell ⟨w.heap.size, k, none⟩ (.slice (some ⟨wq.heap.size, 0, none⟩) b b)).cell? ⟨w.heap.size, k, none⟩ = some (.slice (some ⟨wq.heap.size, 0, none⟩) b b) := World.cell?_setCell_same _ _ _ hold2
      clear ho2 hg2 ho3 hold hfr hb2 hb1 hcv
      go_wp2_with fail
      go_loopw [27] (fun v27 wr => ∃ j : Nat, j ≤ b ∧ v27 = .int .i64 j ∧ CellsV wr w.heap.size (.slice (some ⟨w.heap.size, 0, none⟩) a a) ((rwk a b f k).set k (cpy R j)) ∧ Below w.heap.size w wr) (fun v27 _ => b - (intOf v27).toNat)
      case atStart => exact ⟨0, Nat.zero_le _, rfl, HCV.out, HBZ.out⟩
      case round =>
        clear hcl0 hold2 hfr2
        obtain ⟨j, hj, rfl, hc, hb1⟩ := hrel
        obtain ⟨wm, rfl⟩ : ∃ wm : World, wm = wr := ⟨_, rfl⟩
        by_cases hlj : j < b
        · have hji : (j : Int) < (b : Int) := by omega
          have e1 : ((rwk a b f k).set k (cpy R j)).getD k [] = cpy R j := by simp [List.getD, HLk.out, hlt]
          have e2 : (cpy R j).length = b := by rw [cpy_len _ _ (by omega)]; exact hRl
          obtain ⟨g, ra, rc, hg, hgl, c0, hrow⟩ := cells_cell hc k (by rw [List.length_set, HLk.out]; exact hlt)
          simp only [Option.some.injEq, Addr.mk.injEq, and_true] at hg
          subst hg
          rw [e1, e2] at c0
          obtain ⟨rb, cur, hra, hbr, hrl, hhr, hjc, hgr, hpt⟩ := hrow j (by rw [e1, e2]; exact hlj)
          subst hra
          rw [e1] at hpt
          have HE : Hid (((rwk a b f k).set k (cpy R j)).set k ((cpy R j).set j (f k j)) = (rwk a b f k).set k (cpy R (j + 1))) := Lib.hid (by
            rw [List.set_set, ← cpy_put R j (by omega), hR, rowL_at b (f k) j hlj])
          have HPT := Lib.hid hpt
          have HCJ := Lib.hid (HCLk.out j hlj)
          have HB1 := Lib.hid hb1
          have hzm := hb1.size
          clear hrow hpt e1 e2 hc hb1
          generalize f k j = x at *
          go_wp2_with fail
          refine wp_region_mix (fun w' => w'.cell? ⟨w.heap.size, k, none⟩ = some (.slice (some ⟨rb, 0, none⟩) b rc)) [8, 10] [0, 1, 2, 3, 4, 5, 6, 7, 8, 9, 10] (by kernel_rfl) (by kernel_rfl) (fun _ _ d _ _ h => by cases d <;> exact h) (by kernel_rfl) rfl c0 ?_
          refine mix_take 0 _ ?_ rfl rfl rfl (some 30) rfl (fun w' hw' => ?hv0) ?_
          case hv0 =>
            go_simp
            with_reducible rfl
          simp only [Act.put, List.setIfInBounds_toArray, List.set_cons_zero, List.set_cons_succ]
          refine mix_take 1 _ ?_ rfl rfl rfl (some 31) rfl (fun w' hw' => ?hv1) ?_
          case hv1 =>
            go_simp
            with_reducible rfl
          simp only [Act.put, List.setIfInBounds_toArray, List.set_cons_zero, List.set_cons_succ]
          refine mix_take 2 _ ?_ rfl rfl rfl (some 32) rfl (fun w' hw' => ?hv2) ?_
          case hv2 =>
            go_simp
            with_reducible rfl
          simp only [Act.put, List.setIfInBounds_toArray, List.set_cons_zero, List.set_cons_succ]
          refine mix_take 3 _ ?_ rfl rfl rfl (some 33) rfl (fun w' hw' => ?hv3) ?_
          case hv3 =>
            have s0 : w'.cell? ⟨w.heap.size, k, none⟩ = some (.slice (some ⟨rb, 0, none⟩) b rc) := hw'
            go_simp
            with_reducible rfl
          simp only [Act.put, List.setIfInBounds_toArray, List.set_cons_zero, List.set_cons_succ]
          refine mix_take 4 _ ?_ rfl rfl rfl (some 34) rfl (fun w' hw' => ?hv4) ?_
          case hv4 =>
            go_simp
            with_reducible rfl
          simp only [Act.put, List.setIfInBounds_toArray, List.set_cons_zero, List.set_cons_succ]
          refine mix_take 5 _ ?_ rfl rfl rfl (some 35) rfl (fun w' hw' => ?hv5) ?_
          case hv5 =>
            go_simp
            with_reducible rfl
          simp only [Act.put, List.setIfInBounds_toArray, List.set_cons_zero, List.set_cons_succ]
          refine mix_take 6 _ ?_ rfl rfl rfl (some 36) rfl (fun w' hw' => ?hv6) ?_
          case hv6 =>
            go_simp
            with_reducible rfl
          simp only [Act.put, List.setIfInBounds_toArray, List.set_cons_zero, List.set_cons_succ]
          refine mix_take 7 _ ?_ rfl rfl rfl (some 37) rfl (fun w' hw' => ?hv7) ?_
          case hv7 =>
            go_simp
            with_reducible rfl
          simp only [Act.put, List.setIfInBounds_toArray, List.set_cons_zero, List.set_cons_succ]
          refine mix_call 8 _ rfl rfl rfl fid #[.int .i64 k, .int .i64 j, c1] (some 38) rfl ?hr8 ?_
          case hr8 => go_simp
          refine (HCJ.out _ (HB1.out.trans (((Same.refl wm).drew wm.heap.size).mono hzm))).mono ?_
          rintro e w4 ⟨rfl, hb4⟩
          have hb4' : Below wm.heap.size wm w4 := ((Same.refl wm).drew wm.heap.size).trans hb4
          refine ⟨_, rfl, (hb4'.cell (p := ⟨w.heap.size, k, none⟩) hgl).trans c0, ?_⟩
          simp only [Act.put, List.setIfInBounds_toArray, List.set_cons_zero, List.set_cons_succ]
          refine mix_take 9 _ ?_ rfl rfl rfl (some 39) rfl (fun w' hw' => ?hv9) ?_
          case hv9 =>
            go_simp
            with_reducible rfl
          simp only [Act.put, List.setIfInBounds_toArray, List.set_cons_zero, List.set_cons_succ]
          refine mix_put_cell 10 _ rfl rfl rfl _ _ _ rfl none rfl szI rb j x rfl rfl cur _ (hp_later hhr hb4') hjc ⟨?hS, ?_⟩
          case hS => exact (World.cell?_setCell_other _ _ _ _ (fun e => hgr (congrArg Addr.block e).symm)).trans ((hb4'.cell (p := ⟨w.heap.size, k, none⟩) hgl).trans c0)
          simp only [Act.put]
          refine mix_done ?_
          have hcf2 := HPT.out w4 hb4' x
          rw [HE.out] at hcf2
          have HCF := Lib.hid hcf2
          have HBF := Lib.hid ((HB1.out.trans (hb4'.mono hzm)).setCell (p := ⟨rb, j, none⟩) hbr (.int .i64 x))
          clear hcf2
          go_wp2_with fail
          go_roundw
          case rel => exact ⟨j + 1, by omega, by go_num, HCF.out, HBF.out⟩
          case measure => simp [intOf]; omega
        · have hj2 : j = b := by omega
          have e3 : cpy R j = rowL b (f k) := by rw [hj2, ← hR, ← hRl]; exact cpy_all R
          rw [e3, HSk.out] at hc
          have hjn : ¬ (j : Int) < (b : Int) := by omega
          clear hj2 e3
          go_wp2_with fail
          go_roundw
          case rel => exact ⟨k + 1, by omega, by go_num, hc, hb1⟩
          case measure => simp [intOf]; omega
    · have hk2 : k = a := by omega
      rw [hk2, HEND.out] at hc
      clear hk2
      go_wp2_with fail
      go_ret
      exact ⟨_, rfl, hc, hb1⟩
end Go.Proofs.Ytlkgmnmnlfaopaa
