import Derived.RegionTactic
import Derived.Test.YtfhohmahckjpeaaK6
import Derived.Test.YtfhohmahckjpeaaZa
namespace Go.Proofs.Ytfhohmahckjpeaa
open Go.RowKit
set_option maxRecDepth 4000
theorem kI_at (n k j : Nat) : (kI n k).getD j 0 = (((kS n k).getD j 0 : Nat) : Int) := by
  simp only [kI, List.getD_eq_getElem?_getD, List.getElem?_map]
  cases (kS n k)[j]? <;> rfl
theorem kI_length (n k : Nat) : (kI n k).length = (kS n k).length := by simp [kI]
theorem kS_lt (n k : Nat) (h : n ≤ 8) (s : Nat) (hs : s ∈ kS n k) : s < 2 ^ n ∧ s < 256 := by
  have h1 : s < 2 ^ n := by
    simp only [kS, List.mem_filter, List.mem_range] at hs
    exact hs.1
  have h2 : 2 ^ n ≤ 2 ^ 8 := Nat.pow_le_pow_right (by omega) h
  omega
theorem kS_at_lt (n k : Nat) (h : n ≤ 8) (j : Nat) (hj : j < (kS n k).length) : (kS n k).getD j 0 < 2 ^ n ∧ (kS n k).getD j 0 < 256 := by
  rw [List.getD_eq_getElem?_getD, List.getElem?_eq_getElem hj]
  exact kS_lt n k h _ (List.getElem_mem hj)
theorem filt_map (l : List Nat) (F : Int → Bool) (G : Nat → Bool) (h : ∀ s ∈ l, F (s : Int) = G s) : (l.map (fun (j : Nat) => (j : Int))).filter F = (l.filter G).map (fun (j : Nat) => (j : Int)) := by
  rw [List.filter_map]
  congr 1
  exact List.filter_congr (fun x hx => h x hx)
theorem callApart : ∀ (args : Array Value) (w : World), (callFunc 46 args).run Try.prog w = .ok (.enter 46 args) w := fun _ _ => rfl
set_option maxHeartbeats 1600000 in
theorem degree_any (n k : Nat) (h1 : 1 ≤ k) (h2 : k ≤ n) (h3 : n ≤ 8) (h0 : 0 < (kI n k).length) (a : Option Addr) (cap : Nat) (w : World) (h : RdS w w.heap.size a (kI n k)) :
    Calls Try.prog 47 #[.agg #[.slice a (kI n k).length cap, .int .i64 n, .int .i64 k]] w fun e w' => e = .returned (.int .i64 (chs (n - k) k : Nat)) ∧ Below w.heap.size w w' := by
  obtain ⟨w1, hw1⟩ : ∃ w1, w1 = w.alloc (.cells #[.slice a (kI n k).length cap, .int .i64 n, .int .i64 k] 40) := ⟨_, rfl⟩
  have hb1 : Below w.heap.size w w1 := by rw [hw1]; exact balloc (Below.refl w.heap.size w) _
  have g1 : w1.heap[w.heap.size]? = some (.cells #[.slice a (kI n k).length cap, .int .i64 n, .int .i64 k] 40 (0, 0)) := by rw [hw1]; exact heap_alloc_new w _
  have hl1 := hp_lt g1
  have c0 : w1.cell? ⟨w.heap.size, 0, none⟩ = some (.slice a (kI n k).length cap) := blk_cell g1 0 _ rfl
  have hr1 := rds_later h hb1
  obtain ⟨b, off, hrd, hbB⟩ := id hr1
  obtain ⟨ha, e0⟩ := hrd.2 0 h0
  have hbl : b < w1.heap.size := by have := hb1.size; omega
  have hs0 := (kS_at_lt n k h3 0 (by rw [← kI_length]; exact h0)).2
  rw [kI_at, Nat.add_zero] at e0
  have hll := kI_len n k h3
  have HD : Hid (((kI n k).filter (fun x => decide ((kS n k).getD 0 0 &&& x.toNat = 0))).length = chs (n - k) k) := Lib.hid (by
    rw [show kI n k = (kS n k).map (fun (j : Nat) => (j : Int)) from rfl, filt_map (kS n k) _ (fun s => decide ((kS n k).getD 0 0 &&& s = 0)) (fun s _ => rfl), List.length_map]
    exact kS_deg n (by omega) (by omega) k (by omega) h1 h2)
  have HN := Lib.hid (fun w' (hb : Below w1.heap.size w1 w') => whrIP_any (kI n k) (fun x => decide ((kS n k).getD 0 0 &&& x.toNat = 0)) 46 (.int .i64 ((kS n k).getD 0 0 : Nat)) callApart a cap w.heap.size w' (rds_chg hr1 (chg_below hb) hb1.size (.inr rfl)) (Nat.le_trans hb1.size hb.size) (by omega) (fun j hj w'' _ => by
    rw [kI_at]
    have hj' : j < (kS n k).length := by rw [← kI_length]; exact hj
    refine (isApart_any _ _ hs0 (kS_at_lt n k h3 j hj').2 w'').mono ?_
    rintro e w3 ⟨rfl, rfl⟩
    exact ⟨ret_bool (by simp), Below.refl _ _⟩))
  have HW := Lib.hid hw1
  have HG := Lib.hid g1
  have hi0 : (0 : Int) < ((kI n k).length : Int) := by omega
  have hz1 := hb1.size
  clear hw1 h g1 hr1 hrd hs0
  subst ha
  generalize (kS n k).getD 0 0 = q0 at *
  go_enter Try.func47, Try.ntmps47
  go_wp2_with fail
  rw [← HW.out]
  refine wp_region_mix (fun w' => Below w1.heap.size w1 w') [7] [0, 1, 2, 3, 4, 5, 6, 7, 8, 9] (by kernel_rfl) (by kernel_rfl) (fun _ _ d _ _ h => by cases d <;> exact h) (by kernel_rfl) rfl ((Same.refl w1).drew _) ?_
  refine mix_take 0 _ ?_ rfl rfl rfl (some 3) rfl (fun w' hw' => ?hv0) ?_
  case hv0 =>
    go_simp
    with_reducible rfl
  simp only [Act.put, List.setIfInBounds_toArray, List.set_cons_zero, List.set_cons_succ]
  refine mix_take 1 _ ?_ rfl rfl rfl (some 4) rfl (fun w' hw' => ?hv1) ?_
  case hv1 =>
    have s0 := ((hw' : Below w1.heap.size w1 w').cell (p := ⟨w.heap.size, 0, none⟩) hl1).trans c0
    go_simp
    with_reducible rfl
  simp only [Act.put, List.setIfInBounds_toArray, List.set_cons_zero, List.set_cons_succ]
  refine mix_take 2 _ ?_ rfl rfl rfl (some 5) rfl (fun w' hw' => ?hv2) ?_
  case hv2 =>
    go_simp
    with_reducible rfl
  simp only [Act.put, List.setIfInBounds_toArray, List.set_cons_zero, List.set_cons_succ]
  refine mix_take 3 _ ?_ rfl rfl rfl (some 6) rfl (fun w' hw' => ?hv3) ?_
  case hv3 =>
    have s0 := ((hw' : Below w1.heap.size w1 w').cell (p := ⟨w.heap.size, 0, none⟩) hl1).trans c0
    go_simp
    with_reducible rfl
  simp only [Act.put, List.setIfInBounds_toArray, List.set_cons_zero, List.set_cons_succ]
  refine mix_take 4 _ ?_ rfl rfl rfl (some 7) rfl (fun w' hw' => ?hv4) ?_
  case hv4 =>
    go_simp
    with_reducible rfl
  simp only [Act.put, List.setIfInBounds_toArray, List.set_cons_zero, List.set_cons_succ]
  refine mix_take 5 _ ?_ rfl rfl rfl (some 8) rfl (fun w' hw' => ?hv5) ?_
  case hv5 =>
    have s0 := ((hw' : Below w1.heap.size w1 w').cell (p := ⟨b, off, none⟩) hbl).trans e0
    go_simp
    with_reducible rfl
  simp only [Act.put, List.setIfInBounds_toArray, List.set_cons_zero, List.set_cons_succ]
  refine mix_take 6 _ ?_ rfl rfl rfl (some 9) rfl (fun w' hw' => ?hv6) ?_
  case hv6 =>
    go_simp
    with_reducible rfl
  simp only [Act.put, List.setIfInBounds_toArray, List.set_cons_zero, List.set_cons_succ]
  refine mix_call 7 _ rfl rfl rfl 63 #[.slice (some ⟨b, off, none⟩) (kI n k).length cap, .func (.func 46) #[.int .i64 q0] #[]] (some 10) rfl ?hr7 ?_
  case hr7 => go_simp
  refine (HN.out _ ((Same.refl w1).drew _)).mono ?_
  rintro e w2 ⟨v, rfl, ho, hb2⟩
  have hb2' : Below w1.heap.size w1 w2 := ((Same.refl w1).drew w1.heap.size).trans hb2
  refine ⟨_, rfl, hb2', ?_⟩
  simp only [Act.put, List.setIfInBounds_toArray, List.set_cons_zero, List.set_cons_succ]
  obtain ⟨va, vc, -, rfl, -, -⟩ := oi_shape ho
  refine mix_take 8 _ ?_ rfl rfl rfl (some 11) rfl (fun w' hw' => ?hv8) ?_
  case hv8 =>
    go_simp
    with_reducible rfl
  simp only [Act.put, List.setIfInBounds_toArray, List.set_cons_zero, List.set_cons_succ]
  refine mix_take 9 _ ?_ rfl rfl rfl (some 2) rfl (fun w' hw' => ?hv9) ?_
  case hv9 =>
    go_simp
    with_reducible rfl
  simp only [Act.put, List.setIfInBounds_toArray, List.set_cons_zero, List.set_cons_succ]
  refine mix_done ?_
  go_wp2_with fail
  go_ret
  exact ⟨ret_int (by rw [HD.out]), bnext hb1 hb2'⟩
end Go.Proofs.Ytfhohmahckjpeaa
