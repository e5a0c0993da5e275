import Derived.LoopN
import Derived.BigRegion
import Derived.BigQuiet
import Derived.RegionTactic
import Derived.Test.YtlkgmnmnlfaopaaVZeroSum
import Derived.Test.YtlkgmnmnlfaopaaQ27
import Derived.Test.YtlkgmnmnlfaopaaQ23
namespace Go.Proofs.Ytlkgmnmnlfaopaa
open Go.RowKit
set_option maxRecDepth 4000
theorem cells_val {w : World} {base n cap g rb l rc : Nat} {cs : List (List Int)} (h : CellsV w base (.slice (some ⟨g, 0, none⟩) n cap) cs) (k : Nat) (hk : k < cs.length) (c0 : w.cell? ⟨g, k, none⟩ = some (.slice (some ⟨rb, 0, none⟩) l rc)) (j : Nat) (hj : j < (cs.getD k []).length) :
    w.cell? ⟨rb, j, none⟩ = some (.int .i64 ((cs.getD k []).getD j 0)) := by
  obtain ⟨-, -, b, off, hx⟩ := oss_rd (oss_of h)
  obtain ⟨hae, -, ra, rc', k0, b2, o2, hr, -⟩ := hx k hk
  simp only [Option.some.injEq, Addr.mk.injEq, and_true] at hae
  obtain ⟨rfl, rfl⟩ := hae
  rw [Nat.zero_add, c0] at k0
  simp only [Option.some.injEq, Value.slice.injEq] at k0
  obtain ⟨rfl, -, -⟩ := k0
  obtain ⟨hbe, hv⟩ := hr.2 j hj
  simp only [Option.some.injEq, Addr.mk.injEq, and_true] at hbe
  obtain ⟨rfl, rfl⟩ := hbe
  rw [Nat.zero_add] at hv
  exact hv
theorem neg1_any (j : Nat) (x : Int) (hx : -9 ≤ x ∧ x ≤ 9) (w : World) : Calls Try.prog 84 #[.int .i64 j, .int .i64 x] w fun e w' => e = .returned (.int .i64 (-x)) ∧ Below w.heap.size w w' := by
  have e1 : wrap64 (-x) = -x := IntWalk.wrap64_in _ ⟨by omega, by omega⟩
  have e3 : IntKind.i64.wrap (-x) = -x := IntWalk.i64_in _ ⟨by omega, by omega⟩
  go_enter Try.func84, Try.ntmps84
  go_wp2_with fail
  go_ret
  exact ⟨rfl, Below.refl _ _⟩
def negL (rs : List (List Int)) : List (List Int) := gridL rs.length (rs.getD 0 []).length (fun i j => -((rs.getD i []).getD j 0))
set_option maxHeartbeats 1600000 in
theorem implZeroSum (rs : List (List Int)) (ar : Option Addr) (cr : Nat) (w : World) (hr : RdSS w w.heap.size ar rs) :
    Calls Try.prog 48 #[.slice ar rs.length cr] w (OutZeroSum w (if gB rs then rs else []) (if gB rs then negL rs else []) (gB rs)) := by
  obtain ⟨w1, hw1⟩ : ∃ w1, w1 = (w.alloc (.cells zgame 27)) := ⟨_, rfl⟩
  have hb1 : Below w.heap.size w w1 := by rw [hw1]; exact balloc (Below.refl w.heap.size w) _
  have g1 : w1.heap[w.heap.size]? = some (.cells zgame 27 (0, 0)) := by rw [hw1]; exact heap_alloc_new w _
  have hz1 : w1.heap.size = w.heap.size + 1 := by rw [hw1]; simp
  have hle : w.heap.size ≤ w1.heap.size := hb1.size
  have hr1 := rdss_chg hr (chg_below hb1) (Nat.le_refl _) (.inr rfl)
  have HA := Lib.hid (arePays_any rs ar cr w.heap.size w1 hr1)
  have HW := Lib.hid hw1
  have HZ := Lib.hid hz1
  cases eg : gB rs
  · rw [eg] at HA
    clear hw1 hr hr1 eg hz1
    go_enter Try.func48, Try.ntmps48
    go_wp2_with ((with_reducible refine alloc_blk zgame run_alloc_game rfl rfl ?_); simp only [Act.put, List.setIfInBounds_toArray, List.set_cons_zero, List.set_cons_succ])
    rw [← HW.out]
    refine HA.out.mono ?_
    rintro e w3 ⟨rfl, rfl⟩
    go_wp2_with (first | (with_reducible refine build0_blk zgame run_build0_game rfl rfl ?_) | ((with_reducible refine store_blk blkG rfl _ _ rfl (w.heap.size) (zgame) (zgame) ?_ ?_ g1 (rfl) (rfl) (zgame_one) (w.heap.size) (by omega) ?_); exact rfl; exact rfl; intro w5 hg5 hb5 hk5 hz5))
    exact bodyPost_ret (results_blk blkG rfl _ _ (w.heap.size) _ (.bool false) rfl rfl hg5 rfl) rfl ⟨_, _, rfl, og_nil _ _ _ (hb1.trans hb5).size, hb1.trans hb5⟩
  · rw [eg] at HA
    have ok := gB_ok eg
    rw [if_pos rfl, if_pos rfl]
    have HC := Lib.hid (copied_any rs _ _ ok ar cr w.heap.size w1 hr1 hle)
    have HN : Hid (∀ w', Below w1.heap.size w1 w' → Calls Try.prog 79 #[.slice ar rs.length cr, .func (.func 84) #[] #[]] w' fun e w'' => ∃ v, e = .returned v ∧ CellsV w'' w'.heap.size v (negL rs) ∧ Below w'.heap.size w' w'') :=
      Lib.hid (fun w' hb => changed0_any rs _ _ ok (fun _ x => -x) 84 (fun _ _ => rfl) ar cr w.heap.size w' (rdss_chg hr1 (chg_below hb) hle (.inr rfl)) (by have := hb.size; omega) (fun i j hi hj w'' _ => neg1_any j _ (ok.bd i hi j hj) w''))
    clear hw1 hr hr1 eg hz1 ok
    generalize negL rs = ng at *
    go_enter Try.func48, Try.ntmps48
    go_wp2_with ((with_reducible refine alloc_blk zgame run_alloc_game rfl rfl ?_); simp only [Act.put, List.setIfInBounds_toArray, List.set_cons_zero, List.set_cons_succ])
    rw [← HW.out]
    refine HA.out.mono ?_
    rintro e w3 ⟨rfl, rfl⟩
    go_wp2_with fail
    refine HC.out.mono ?_
    rintro e w3 ⟨v1, rfl, hc1, hb3⟩
    have hz3 := hb3.size
    go_wp2_with fail
    refine (HN.out _ hb3).mono ?_
    rintro e w4 ⟨v2, rfl, hc2, hb4⟩
    have hz4 := hb4.size
    have o1 := oss_keep (oss_of hc1) (chg_below hb4) (Nat.le_refl _) (.inl (Nat.zero_le _))
    have o2 := oss_of hc2
    obtain ⟨a1, c1, rfl, -⟩ := oss_shape o1
    obtain ⟨a2, c2, rfl, -⟩ := oss_shape o2
    have hb4' := bnext hb3 hb4
    have hbd := run_build_game a1 a2 rs.length ng.length c1 c2
    have k4 := hp_later g1 hb4'
    go_wp2_with (first | (with_reducible refine build_blk #[.slice a1 rs.length c1, .slice a2 ng.length c2] #[(0, .slice a1 rs.length c1), (1, .slice a2 ng.length c2)] hbd rfl _ rfl rfl ?_) | ((with_reducible refine store_blk blkG rfl _ _ rfl (w.heap.size) (#[.slice a1 rs.length c1, .slice a2 ng.length c2]) (zgame) ?_ ?_ k4 (rfl) (rfl) ((one2 _ _ _ _ _ _)) (w.heap.size) (by omega) ?_); exact rfl; exact rfl; intro w5 hg5 hb5 hk5 hz5))
    have hz1 := HZ.out
    have hch5 : Chg w.heap.size (w.heap.size + 1) w4 w5 := ⟨hb5.os, hb5.tape, hb5.output, hb5.size, fun k _ hx => hk5 k (by omega)⟩
    exact bodyPost_ret (results_blk blkG rfl _ _ (w.heap.size) _ (.bool true) rfl rfl hg5 rfl) rfl ⟨_, _, rfl, ⟨w3.heap.size, by omega, by omega, oss_low (oss_keep o1 hch5 (by omega) (.inl (by omega))) (by omega), oss_high (oss_keep o2 hch5 (by omega) (.inl (by omega))) (by omega)⟩, (bnext hb1 hb4').trans hb5⟩
end Go.Proofs.Ytlkgmnmnlfaopaa
