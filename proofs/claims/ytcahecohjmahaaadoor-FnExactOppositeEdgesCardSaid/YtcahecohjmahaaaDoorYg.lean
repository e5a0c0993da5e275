import Derived.Test.YtcahecohjmahaaaDoorYf
namespace Go.Proofs.YtcahecohjmahaaaDoor
open Go.RowKit
set_option maxRecDepth 4000
/-- The labels of two points have this sum. -/
def sumB (xs : List Int) (s : Int) (p : Int × Int) : Bool := xs.getD p.1.toNat 0 + xs.getD p.2.toNat 0 == s
set_option maxHeartbeats 1000000 in
theorem isDoor_lq (n : Int) (xs : List Int) (a : Option Addr) (b len cap i j : Nat) (w : World) (hn : xs.length = len) (h : Rd w a b 0 xs) (hb0 : len = 0 ∨ b < w.heap.size) (hA : all4 xs = true) (hi : i < len) (hj : j < len) :
    Calls Tryd.prog 149 #[.agg (lqA n a len cap), .agg #[.int .i64 i, .int .i64 j]] w fun e w' => e = .returned (.bool (sumB xs 3 ((i : Int), (j : Int)))) ∧ Below w.heap.size w w' := by
  have hbl : b < w.heap.size ∨ len = 0 := by omega
  have HD : Hid (∀ W, Below w.heap.size w W → ∀ k : Nat, k < len → Calls Tryd.prog 199 #[.slice a len cap, .int .i64 k] W fun e w' => e = .returned (.int .i64 (xs.getD k 0)) ∧ W = w') := by
    intro W hB k hk
    refine labelAt_any xs a b len cap k W hn ⟨h.1, fun j hj => ⟨(h.2 j hj).1, ?_⟩⟩ hk
    rcases hbl with e | e
    · exact (hB.cell (by simpa using e)).trans (h.2 j hj).2
    · rw [hn, e] at hj; exact absurd hj (Nat.not_lt_zero _)
  have hm : ∀ w : World, (method 308 167 (.slice a len cap) "loop.example/g01160/impl.labelAt").run Tryd.prog w = .ok (199, .slice a len cap) w := fun _ => by kernel_rfl
  have a1 := all4_at hA i (by omega)
  have a2 := all4_at hA j (by omega)
  have HX : Hid (sumB xs 3 ((i : Int), (j : Int)) = (xs.getD i 0 + xs.getD j 0 == 3)) := Lib.hid rfl
  have DI := Lib.hid (fun W hB => HD.out W hB i hi)
  have DJ := Lib.hid (fun W hB => HD.out W hB j hj)
  have W1 := balloc (balloc (Below.refl w.heap.size w) (.cells (lqA n a len cap) 61)) (.cells #[.int .i64 i, .int .i64 j] 94)
  have q1 : ((w.alloc (.cells (lqA n a len cap) 61)).alloc (.cells #[.int .i64 i, .int .i64 j] 94)).cell? ⟨w.heap.size, 1, none⟩ = some (.iface 167 (.slice a len cap)) := by unfold lqA; go_cell
  have p0 : ((w.alloc (.cells (lqA n a len cap) 61)).alloc (.cells #[.int .i64 i, .int .i64 j] 94)).cell? ⟨w.heap.size + 1, 0, none⟩ = some (.int .i64 i) := by go_cell
  have p1 : ((w.alloc (.cells (lqA n a len cap) 61)).alloc (.cells #[.int .i64 i, .int .i64 j] 94)).cell? ⟨w.heap.size + 1, 1, none⟩ = some (.int .i64 j) := by go_cell
  have hsz : ((w.alloc (.cells (lqA n a len cap) 61)).alloc (.cells #[.int .i64 i, .int .i64 j] 94)).heap.size = w.heap.size + 2 := by simp
  generalize xs.getD i 0 = x at *
  generalize xs.getD j 0 = y at *
  clear h hn hA hbl HD
  go_enter Tryd.func149, Tryd.ntmps149
  go_wp2_with fail
  refine wp_region_below (by kernel_rfl) (by kernel_rfl) ?_
  intro ι hne f hbf hcl
  generalize hw2 : (w.alloc (.cells (lqA n a len cap) 61)).alloc (.cells #[.int .i64 i, .int .i64 j] 94) = w2 at *
  have m1 : ∀ i, (f i).cell? ⟨w.heap.size, 1, none⟩ = some (.iface 167 (.slice a len cap)) := fun i => ((hbf i).cell (p := ⟨w.heap.size, 1, none⟩) (by show w.heap.size < _; omega)).trans q1
  have m2 : ∀ k, (f k).cell? ⟨w.heap.size + 1, 0, none⟩ = some (.int .i64 i) := fun k => ((hbf k).cell (p := ⟨w.heap.size + 1, 0, none⟩) (by show w.heap.size + 1 < _; omega)).trans p0
  have m3 : ∀ k, (f k).cell? ⟨w.heap.size + 1, 1, none⟩ = some (.int .i64 j) := fun k => ((hbf k).cell (p := ⟨w.heap.size + 1, 1, none⟩) (by show w.heap.size + 1 < _; omega)).trans p1
  have CI : ∀ k, Below w.heap.size w (f k) := fun k => W1.trans ((hbf k).mono (by omega))
  repeat (go_big_quiet_step (first | (go_at_call 199; first | (with_reducible refine (DI.out _ (CI _)).mono ?_; rintro e w' ⟨rfl, rfl⟩; exact ⟨rfl, _, rfl⟩) | (with_reducible refine (DJ.out _ (CI _)).mono ?_; rintro e w' ⟨rfl, rfl⟩; exact ⟨rfl, _, rfl⟩))))
  refine wpQuiet_nil ?_
  rintro _ ⟨k, rfl⟩
  have hb := CI k
  generalize f k = w' at hb ⊢
  go_wp2_with fail
  go_ret
  exact ⟨ret_bool HX.out.symm, hb⟩
set_option maxHeartbeats 1000000 in
theorem isOppositeEdge_lq (n : Int) (xs : List Int) (a : Option Addr) (b len cap i j : Nat) (w : World) (hn : xs.length = len) (h : Rd w a b 0 xs) (hb0 : len = 0 ∨ b < w.heap.size) (hA : all4 xs = true) (hi : i < len) (hj : j < len) :
    Calls Tryd.prog 55 #[.agg (lqA n a len cap), .agg #[.int .i64 i, .int .i64 j]] w fun e w' => e = .returned (.bool (sumB xs 0 ((i : Int), (j : Int)))) ∧ Below w.heap.size w w' := by
  have hbl : b < w.heap.size ∨ len = 0 := by omega
  have HD : Hid (∀ W, Below w.heap.size w W → ∀ k : Nat, k < len → Calls Tryd.prog 199 #[.slice a len cap, .int .i64 k] W fun e w' => e = .returned (.int .i64 (xs.getD k 0)) ∧ W = w') := by
    intro W hB k hk
    refine labelAt_any xs a b len cap k W hn ⟨h.1, fun j hj => ⟨(h.2 j hj).1, ?_⟩⟩ hk
    rcases hbl with e | e
    · exact (hB.cell (by simpa using e)).trans (h.2 j hj).2
    · rw [hn, e] at hj; exact absurd hj (Nat.not_lt_zero _)
  have hm : ∀ w : World, (method 308 167 (.slice a len cap) "loop.example/g01160/impl.labelAt").run Tryd.prog w = .ok (199, .slice a len cap) w := fun _ => by kernel_rfl
  have a1 := all4_at hA i (by omega)
  have a2 := all4_at hA j (by omega)
  have HX : Hid (sumB xs 0 ((i : Int), (j : Int)) = (xs.getD i 0 + xs.getD j 0 == 0)) := Lib.hid rfl
  have DI := Lib.hid (fun W hB => HD.out W hB i hi)
  have DJ := Lib.hid (fun W hB => HD.out W hB j hj)
  have W1 := balloc (balloc (Below.refl w.heap.size w) (.cells (lqA n a len cap) 61)) (.cells #[.int .i64 i, .int .i64 j] 94)
  have q1 : ((w.alloc (.cells (lqA n a len cap) 61)).alloc (.cells #[.int .i64 i, .int .i64 j] 94)).cell? ⟨w.heap.size, 1, none⟩ = some (.iface 167 (.slice a len cap)) := by unfold lqA; go_cell
  have p0 : ((w.alloc (.cells (lqA n a len cap) 61)).alloc (.cells #[.int .i64 i, .int .i64 j] 94)).cell? ⟨w.heap.size + 1, 0, none⟩ = some (.int .i64 i) := by go_cell
  have p1 : ((w.alloc (.cells (lqA n a len cap) 61)).alloc (.cells #[.int .i64 i, .int .i64 j] 94)).cell? ⟨w.heap.size + 1, 1, none⟩ = some (.int .i64 j) := by go_cell
  have hsz : ((w.alloc (.cells (lqA n a len cap) 61)).alloc (.cells #[.int .i64 i, .int .i64 j] 94)).heap.size = w.heap.size + 2 := by simp
  generalize xs.getD i 0 = x at *
  generalize xs.getD j 0 = y at *
  clear h hn hA hbl HD
  go_enter Tryd.func55, Tryd.ntmps55
  go_wp2_with fail
  refine wp_region_below (by kernel_rfl) (by kernel_rfl) ?_
  intro ι hne f hbf hcl
  generalize hw2 : (w.alloc (.cells (lqA n a len cap) 61)).alloc (.cells #[.int .i64 i, .int .i64 j] 94) = w2 at *
  have m1 : ∀ i, (f i).cell? ⟨w.heap.size, 1, none⟩ = some (.iface 167 (.slice a len cap)) := fun i => ((hbf i).cell (p := ⟨w.heap.size, 1, none⟩) (by show w.heap.size < _; omega)).trans q1
  have m2 : ∀ k, (f k).cell? ⟨w.heap.size + 1, 0, none⟩ = some (.int .i64 i) := fun k => ((hbf k).cell (p := ⟨w.heap.size + 1, 0, none⟩) (by show w.heap.size + 1 < _; omega)).trans p0
  have m3 : ∀ k, (f k).cell? ⟨w.heap.size + 1, 1, none⟩ = some (.int .i64 j) := fun k => ((hbf k).cell (p := ⟨w.heap.size + 1, 1, none⟩) (by show w.heap.size + 1 < _; omega)).trans p1
  have CI : ∀ k, Below w.heap.size w (f k) := fun k => W1.trans ((hbf k).mono (by omega))
  repeat (go_big_quiet_step (first | (go_at_call 199; first | (with_reducible refine (DI.out _ (CI _)).mono ?_; rintro e w' ⟨rfl, rfl⟩; exact ⟨rfl, _, rfl⟩) | (with_reducible refine (DJ.out _ (CI _)).mono ?_; rintro e w' ⟨rfl, rfl⟩; exact ⟨rfl, _, rfl⟩))))
  refine wpQuiet_nil ?_
  rintro _ ⟨k, rfl⟩
  have hb := CI k
  generalize f k = w' at hb ⊢
  go_wp2_with fail
  go_ret
  exact ⟨ret_bool HX.out.symm, hb⟩
end Go.Proofs.YtcahecohjmahaaaDoor
