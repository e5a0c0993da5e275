import Derived.RegionTactic
import Derived.Test.YtncpnkcdjfohgaaDoorMb7
import Derived.Test.YtncpnkcdjfohgaaDoorMa5
import Derived.Test.YtncpnkcdjfohgaaDoorWFavouriteOf
namespace Go.Proofs.YtncpnkcdjfohgaaDoor
open Go.RowKit
set_option maxRecDepth 4000
/-- The label of a point: its owner's favourite. -/
def lbV (ts : List (List Int)) (n i : Nat) : Int := favP (ts.getD (ownr i).toNat []) n i
def cl (ts : List (List Int)) (n : Nat) : List Int := (List.range (Pr.cnt n)).map (lbV ts n)
theorem cl_len (ts : List (List Int)) (n : Nat) : (cl ts n).length = Pr.cnt n := by simp [cl]
theorem ownr_nat (i : Nat) (h : i < 45) : ∃ p : Nat, p < 3 ∧ ownr i = p := by
  have hb := ownr_bd i h
  obtain ⟨p, hp⟩ := Int.eq_ofNat_of_zero_le hb.1
  exact ⟨p, by omega, hp⟩
theorem lbV_bd (ts : List (List Int)) (n i : Nat) (h1 : 1 ≤ n) (h2 : n ≤ 8) (hi : i < Pr.cnt n) : 0 ≤ lbV ts n i ∧ lbV ts n i ≤ 2 := by
  have hc := (Pr.cnt_le n (by omega)).1
  exact favP_bd _ n i h1 (Pr.R_le_of_lt n (by omega) i hi) (Pr.RC_bd i (by omega)).1
set_option maxHeartbeats 1600000 in
theorem labelAt_any (n i : Nat) (h1 : 1 ≤ n) (h2 : n ≤ 8) (hi : i < Pr.cnt n) (ts : List (List Int)) (hy : rowsB n 9 ts = true) (w : World) :
    Calls Tryd.prog 96 #[.agg (cakeA n ts), .agg (spA n i)] w fun e w' => e = .returned (.int .i64 (lbV ts n i)) ∧ Below w.heap.size w w' := by
  have hc := (Pr.cnt_le n (by omega)).1
  obtain ⟨p, hp, hop⟩ := ownr_nat i (by omega)
  have HO := Lib.hid (fun w => owner_any n i (by omega) w)
  rw [hop] at HO
  have HF := Lib.hid (fun w => favouriteAt_any n p i h1 h2 hp hi ts hy w)
  have HV : Hid (lbV ts n i = favP (ts.getD p []) n i) := Lib.hid (by rw [lbV, hop]; rfl)
  clear hop
  obtain ⟨hg0, hg1⟩ := two_heap w (.cells (cakeA n ts) 55) (.cells (spA n i) 75)
  have hb0 := balloc (balloc (Below.refl w.heap.size w) (.cells (cakeA n ts) 55)) (.cells (spA n i) 75)
  have hz0 : ((w.alloc (.cells (cakeA n ts) 55)).alloc (.cells (spA n i) 75)).heap.size = w.heap.size + 2 := by simp
  go_enter Tryd.func96, Tryd.ntmps96
  go_wp2_with fail
  generalize (w.alloc (.cells (cakeA n ts) 55)).alloc (.cells (spA n i) 75) = w2 at hb0 hg0 hg1 hz0 ⊢
  refine wp_region_mix (fun w' => Below w2.heap.size w2 w') [3, 4] [0, 1, 2, 3, 4, 5] (by kernel_rfl) (by kernel_rfl) (fun _ _ d _ _ h => by cases d <;> exact h) (by kernel_rfl) rfl ((Same.refl w2).drew _) ?_
  refine mix_take 0 _ (.agg (cakeA n ts)) rfl rfl rfl (some 5) rfl (fun w' hw' => exec_row _ _ rfl (w.heap.size) rfl (cakeA n ts) (load_ok blkCake w' _ _ (((hw' : Below w2.heap.size w2 w').block _ (by omega)).trans hg0) (cakeA_size _ _))) ?_
  simp only [Act.put, List.setIfInBounds_toArray, List.set_cons_zero, List.set_cons_succ]
  refine mix_take 1 _ (.agg (spA n i)) rfl rfl rfl (some 6) rfl (fun w' hw' => exec_row _ _ rfl (w.heap.size + 1) rfl (spA n i) (load_ok blkSpot w' _ _ (((hw' : Below w2.heap.size w2 w').block _ (by omega)).trans hg1) (spA_size _ _))) ?_
  simp only [Act.put, List.setIfInBounds_toArray, List.set_cons_zero, List.set_cons_succ]
  refine mix_take 2 _ (.agg (spA n i)) rfl rfl rfl (some 7) rfl (fun w' hw' => exec_row _ _ rfl (w.heap.size + 1) rfl (spA n i) (load_ok blkSpot w' _ _ (((hw' : Below w2.heap.size w2 w').block _ (by omega)).trans hg1) (spA_size _ _))) ?_
  simp only [Act.put, List.setIfInBounds_toArray, List.set_cons_zero, List.set_cons_succ]
  refine mix_call 3 _ rfl rfl rfl 97 #[.agg (spA n i)] (some 8) rfl ?hr3 ?_
  case hr3 => go_simp
  refine (HO.out _).mono ?_
  rintro e w3 ⟨rfl, hb3⟩
  have hb3' : Below w2.heap.size w2 w3 := ((Same.refl w2).drew w2.heap.size).trans hb3
  refine ⟨_, rfl, hb3', ?_⟩
  simp only [Act.put, List.setIfInBounds_toArray, List.set_cons_zero, List.set_cons_succ]
  refine mix_call 4 _ rfl rfl rfl 113 #[.agg (cakeA n ts), .agg (spA n i), .int .i64 p] (some 9) rfl ?hr4 ?_
  case hr4 => go_simp
  refine (HF.out _).mono ?_
  rintro e w4 ⟨rfl, hb4⟩
  have hb4' := bnext hb3' hb4
  refine ⟨_, rfl, hb4', ?_⟩
  simp only [Act.put, List.setIfInBounds_toArray, List.set_cons_zero, List.set_cons_succ]
  refine mix_take 5 _ ?_ rfl rfl rfl (some 4) rfl (fun w' hw' => ?hv5) ?_
  case hv5 =>
    go_simp
    with_reducible rfl
  simp only [Act.put, List.setIfInBounds_toArray, List.set_cons_zero, List.set_cons_succ]
  refine mix_done ?_
  go_wp2_with fail
  go_ret
  exact ⟨ret_int HV.out.symm, bnext hb0 hb4'⟩
set_option maxHeartbeats 1600000 in
theorem lbyCake_any (n : Nat) (h1 : 1 ≤ n) (h2 : n ≤ 8) (ts : List (List Int)) (hy : rowsB n 9 ts = true) (w : World) :
    Calls Tryd.prog 95 #[.agg #[.int .i64 n], .func (.func 96) #[.agg (cakeA n ts)] #[]] w fun e w' => ∃ v, e = .returned v ∧ w'.ownsRow w.heap.size 3 1 v ((List.range (Pr.cnt n)).map (lbV ts n)).length (((List.range (Pr.cnt n)).map (lbV ts n)).map (Value.int .i64)) ∧ Below w.heap.size w w' := by
  have hcn := (Pr.cnt_le n (by omega)).1
  obtain ⟨i0, hi, hz0, hz1, hz2⟩ := info_parts intInfo
  have hLl : ((List.range (Pr.cnt n)).map (lbV ts n)).length = Pr.cnt n := by simp
  have hLg : ∀ k, k < Pr.cnt n → ((List.range (Pr.cnt n)).map (lbV ts n)).getD k 0 = lbV ts n k := fun k hk => by simp [List.getD, hk]
  have HC := Lib.hid (fun k (hk : k < Pr.cnt n) w' => labelAt_any n k h1 h2 hk ts hy w')
  generalize (List.range (Pr.cnt n)).map (lbV ts n) = L at *
  have HLL := Lib.hid hLl
  have HLG := Lib.hid hLg
  clear hLl hLg hy
  go_enter Tryd.func95, Tryd.ntmps95
  go_wp2_with fail
  refine (size_any n h2 _).mono ?_
  rintro e w1 ⟨rfl, hb1⟩
  have hm1 : w1.cell? ⟨w.heap.size, 0, none⟩ = some (.int .i64 n) := (hb1.cell (by simp)).trans (by go_cell)
  have hB1 := bnext (balloc (Below.refl w.heap.size w) (.cells #[.int .i64 n] 50)) hb1
  have hlt1 : w.heap.size < w1.heap.size := by have := hb1.size; simp at this; omega
  clear hb1
  go_wp2_with (at_make; refine wpList_make_full _ rfl _ _ 29 rfl w1.heap.size 3 i0 (.int .i64 0) 1 Tryd.underlying29 hi hz0 hz1 _ _ _ _ (Pr.cnt n) rfl rfl ?hC ?hL ?hb2 ?hb3 ?hb4 ?_)
  case hC => rfl
  case hL => rfl
  case hb2 => rw [hz2]; omega
  case hb3 => unfold maxLen; omega
  case hb4 => exact Nat.le_refl _
  intro w2 ho2 hg2
  have ho2' : w2.ownsRow w1.heap.size 3 1 (.slice (some ⟨w1.heap.size, 0, none⟩) (Pr.cnt n) (Pr.cnt n)) (Pr.cnt n) ((cpy L 0).map (Value.int .i64)) := by
    rw [cpy_zero, List.map_replicate, HLL.out]
    first | exact made_ints (Pr.cnt n) ▸ ho2 | exact made_ints' (Pr.cnt n) ▸ ho2
  have hB2 : Below w1.heap.size w1 w2 := (Below.refl _ _).grown hg2 (Nat.le_refl _) (fun k hk => by cases hk)
  have HM1 := Lib.hid hm1
  clear ho2 hg2 hm1
  go_wp2_with fail
  go_loopw [12] (fun v12 wr => ∃ k : Nat, k ≤ Pr.cnt n ∧ v12 = .int .i64 k ∧ wr.ownsRow w1.heap.size 3 1 (.slice (some ⟨w1.heap.size, 0, none⟩) (Pr.cnt n) (Pr.cnt n)) (Pr.cnt n) ((cpy L k).map (Value.int .i64)) ∧ Below w1.heap.size w1 wr) (fun v12 _ => Pr.cnt n - (intOf v12).toNat)
  case atStart => exact ⟨0, Nat.zero_le _, rfl, ho2', hB2⟩
  case round =>
    obtain ⟨k, hk, rfl, ho, hb⟩ := hrel
    by_cases hlt : k < Pr.cnt n
    · have hm : wr.cell? ⟨w.heap.size, 0, none⟩ = some (.int .i64 n) := (hb.cell hlt1).trans HM1.out
      have hk45 : k < 45 := by omega
      go_wp2_with fail
      refine (spotAt_any n k h1 h2 hk45 _).mono ?_
      rintro e w3 ⟨rfl, hb3⟩
      go_wp2_with fail
      refine (HC.out k hlt _).mono ?_
      rintro e w4 ⟨rfl, hb4⟩
      have hB4 := bnext hb3 hb4
      have ho4 := own_now ho hB4
      have hb4' := hb.trans (hB4.mono hb.size)
      have hf := ho4.frozenAt k
      have hcc := ho4.cellAt k (by omega)
      have hst := (ho4.stored k (.int .i64 (L.getD k 0))).1
      rw [cpy_set L k (by rw [HLL.out]; exact hlt)] at hst
      have HS := Lib.hid hst
      have hl' : k < ((cpy L k).map (Value.int .i64)).length := by rw [List.length_map, cpy_len _ _ (by rw [HLL.out]; omega), HLL.out]; exact hlt
      rw [List.getElem?_eq_getElem hl'] at hcc
      generalize ((cpy L k).map (Value.int .i64))[k] = old at hcc
      rw [← HLG.out k hlt]
      clear hst ho4 hl' ho hb hb3 hb4 hm
      generalize L.getD k 0 = x at *
      go_wp2_with fail
      go_roundw
      case rel => exact ⟨k + 1, by omega, by go_num, HS.out, hb4'.setCell (Nat.le_refl _) _⟩
      case measure => simp [intOf]; omega
    · have hk2 : k = Pr.cnt n := by omega
      have e : cpy L k = L := by rw [hk2, ← HLL.out]; exact cpy_all L
      rw [e] at ho
      clear e hk2
      go_wp2_with fail
      go_ret
      rw [HLL.out]
      exact ⟨_, rfl, own_base ho (Nat.le_of_lt hlt1), bnext hB1 hb⟩
set_option maxHeartbeats 800000 in
theorem labels_any (n : Nat) (h1 : 1 ≤ n) (h2 : n ≤ 8) (ts : List (List Int)) (hy : rowsB n 9 ts = true) (w : World) :
    Calls Tryd.prog 59 #[.agg (cakeA n ts)] w fun e w' => ∃ v, e = .returned v ∧ OI w' w.heap.size w'.heap.size v (cl ts n) ∧ Below w.heap.size w w' := by
  have HB := Lib.hid (fun w => lbyCake_any n h1 h2 ts hy w)
  have hmf : ∀ (fn : Fn) (first cap : Array Value) (w : World), (Instr.makeFunc fn first cap).run Tryd.prog w = .ok (.func fn first cap) w := fun _ _ _ _ => rfl
  have hg0 := heap_alloc_new w (.cells (cakeA n ts) 55)
  have hb0 := balloc (Below.refl w.heap.size w) (.cells (cakeA n ts) 55)
  have hz0 : (w.alloc (.cells (cakeA n ts) 55)).heap.size = w.heap.size + 1 := by simp
  have hc0 := blk_cell hg0 0 _ (cakeF_zero n (tv ts))
  clear hy
  go_enter Tryd.func59, Tryd.ntmps59
  go_wp2_with ((with_reducible refine load_blk blkCake ?_ _ rfl (w.heap.size) ?_ (cakeA n ts) hg0 (cakeA_size _ _) ?_); exact rfl; exact rfl; simp only [Act.put, List.setIfInBounds_toArray, List.set_cons_zero, List.set_cons_succ])
  refine (HB.out _).mono ?_
  rintro e w2 ⟨v, rfl, ho, hb2⟩
  have hB2 := bnext hb0 hb2
  go_wp2_with fail
  go_ret
  refine ⟨_, rfl, ⟨_, own_base ho (by rw [hz0]; omega), own_lt ho⟩, hB2⟩
end Go.Proofs.YtncpnkcdjfohgaaDoor
