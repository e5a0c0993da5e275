import Derived.Test.YtjohjiknngagiaaK16
namespace Go.Proofs.Ytjohjiknngagiaa
open Go.RowKit
set_option maxRecDepth 4000
set_option maxHeartbeats 400000 in
theorem clash_any (x y : Nat) (cx cy : Int) (hx : x < 256) (hy : y < 256) (w : World) :
    Calls Try.prog 76 #[.agg #[.int .i64 x, .int .i64 cx], .agg #[.int .i64 y, .int .i64 cy]] w fun e w' => e = .returned (.bool (decide (x &&& y = 0) && (cx == cy))) ∧ Below w.heap.size w w' := by
  obtain ⟨w1, hw1⟩ : ∃ w1, w1 = (w.alloc (.cells #[.int .i64 x, .int .i64 cx] 80)).alloc (.cells #[.int .i64 y, .int .i64 cy] 80) := ⟨_, rfl⟩
  have hb1 : Below w.heap.size w w1 := by rw [hw1]; exact balloc (balloc (Below.refl w.heap.size w) _) _
  have g0 := heap_alloc2_old w (.cells #[.int .i64 x, .int .i64 cx] 80) (.cells #[.int .i64 y, .int .i64 cy] 80)
  have g1 := heap_alloc2_new w (.cells #[.int .i64 x, .int .i64 cx] 80) (.cells #[.int .i64 y, .int .i64 cy] 80)
  rw [← hw1] at g0 g1
  have c0 : w1.cell? ⟨w.heap.size, 0, none⟩ = some (.int .i64 x) := blk_cell g0 0 _ rfl
  have c1 : w1.cell? ⟨w.heap.size, 1, none⟩ = some (.int .i64 cx) := blk_cell g0 1 _ rfl
  have d0 : w1.cell? ⟨w.heap.size + 1, 0, none⟩ = some (.int .i64 y) := blk_cell g1 0 _ rfl
  have d1 : w1.cell? ⟨w.heap.size + 1, 1, none⟩ = some (.int .i64 cy) := blk_cell g1 1 _ rfl
  have HA := Lib.hid (isApart_any x y hx hy)
  have HW := Lib.hid hw1
  clear g0 g1 hw1
  cases hc : (cx == cy)
  · have HE : Hid ((decide (x &&& y = 0) && false) = false) := Lib.hid (by simp)
    rw [HE.out]
    go_enter Try.func76, Try.ntmps76
    go_wp2_with fail
    rw [← HW.out]
    go_wp2_with fail
    go_ret
    exact ⟨rfl, hb1⟩
  · have HE : Hid ((decide (x &&& y = 0) && true) = decide (x &&& y = 0)) := Lib.hid (by simp)
    rw [HE.out]
    go_enter Try.func76, Try.ntmps76
    go_wp2_with fail
    rw [← HW.out]
    go_wp2_with fail
    refine (HA.out _).mono ?_
    rintro e w2 ⟨rfl, rfl⟩
    go_wp2_with fail
    go_ret
    exact ⟨rfl, hb1⟩
set_option maxHeartbeats 1600000 in
theorem numC_any (l : List Nat) (cs : List Int) (m : Nat) (hm : m ≤ 1000) (a : Option Addr) (cap : Nat) (w : World) (h : RdP w w.heap.size a l cs m) :
    Calls Try.prog 77 #[.slice a m cap, .func (.methodOf 80 "loop.example/g01160/impl.number") #[] #[]] w fun e w' => ∃ v, e = .returned v ∧ OI w' w.heap.size w'.heap.size v (toI ((List.range m).map (fun j => l.getD j 0))) ∧ Below w.heap.size w w' := by
  obtain ⟨b, hc⟩ := h
  have HC := Lib.hid hc
  have HS : Hid (∀ k, toI ((List.range (k + 1)).map (fun j => l.getD j 0)) = toI ((List.range k).map (fun j => l.getD j 0)) ++ [(l.getD k 0 : Int)]) := Lib.hid (fun k => by rw [List.range_succ, List.map_append]; exact toI_snoc _ _)
  have HLN : Hid (∀ k, (toI ((List.range k).map (fun j => l.getD j 0))).length = k) := Lib.hid (fun k => by simp [toI_len])
  clear hc
  go_enter Try.func77, Try.ntmps77
  go_wp2_with fail
  go_loopw [5, 10] (fun v5 v10 wr => ∃ k : Nat, k ≤ m ∧ v10 = .int .i64 k ∧ wr.ownsRow w.heap.size 3 1 v5 (toI ((List.range k).map (fun j => l.getD j 0))).length ((toI ((List.range k).map (fun j => l.getD j 0))).map (Value.int .i64)) ∧ Below w.heap.size w wr) (fun _ v10 _ => m - (intOf v10).toNat)
  case atStart => exact ⟨0, Nat.zero_le _, rfl, World.ownsRow_nil _ _ _ _, Below.refl _ _⟩
  case round =>
    obtain ⟨k, hk, rfl, ho, hb⟩ := hrel
    obtain ⟨wq, rfl⟩ : ∃ wq : World, wq = wr := ⟨_, rfl⟩
    have hz := hb.size
    by_cases hlt : k < m
    · have hki : (k : Int) < (m : Int) := by omega
      obtain ⟨ha, hbl, c, d⟩ := HC.out k hlt
      subst ha
      have c1 : wq.cell? ⟨b, k * 2, none⟩ = some (.int .i64 (l.getD k 0 : Nat)) := (hb.cell (p := ⟨b, k * 2, none⟩) hbl).trans c
      have d1 : wq.cell? ⟨b, k * 2 + 1, none⟩ = some (.int .i64 (cs.getD k 0)) := (hb.cell (p := ⟨b, k * 2 + 1, none⟩) hbl).trans d
      have HSk := Lib.hid (HS.out k)
      have HL : Hid ((toI ((List.range k).map (fun j => l.getD j 0))).length ≤ 1000) := Lib.hid (by rw [HLN.out]; omega)
      have HO := Lib.hid ho
      clear c d ho
      generalize toI ((List.range k).map (fun j => l.getD j 0)) = ys at *
      generalize l.getD k 0 = x at *
      generalize cs.getD k 0 = y at *
      go_wp2_with fail
      refine (number_any _ _).mono ?_
      rintro e w2 ⟨rfl, hb2⟩
      have hb2' : Below wq.heap.size wq w2 := (balloc (Below.refl _ _) _).trans (hb2.mono (by simp))
      have hz2 := hb2'.size
      go_wp2_with (at_builtin; go_loud (refine append_int w.heap.size w2 _ ys _ rfl _ _ rfl rfl rfl (own_now HO.out hb2') (by omega) (by have := HL.out; omega) ?_; intro v' w3 ho3 hb3))
      go_roundw
      case rel => exact ⟨k + 1, by omega, by go_num, by rw [HSk.out]; exact ho3, (hb.trans (hb2'.mono hz)).trans hb3⟩
      case measure => simp [intOf]; omega
    · have hk2 : k = m := by omega
      subst hk2
      go_wp2_with fail
      go_ret
      exact ⟨_, rfl, oi_new ho, hb⟩
end Go.Proofs.Ytjohjiknngagiaa
