import Derived.Test.YtgblcohgnagpcaaCs
import Derived.LoopN
import Derived.BigRegion
namespace Go.Proofs.Ytgblcohgnagpcaa
open Go.RowKit
set_option maxRecDepth 4000
/-- Nine numbers as the program keeps them. -/
def nineA (a b c d e f g h i : Int) : Array Value := #[.int .i64 a, .int .i64 b, .int .i64 c, .int .i64 d, .int .i64 e, .int .i64 f, .int .i64 g, .int .i64 h, .int .i64 i]
theorem eqSpot (a b c d e f : Int) (w : World) : (Op.equalIn 10000 48 (.agg #[.int .i64 a, .int .i64 b, .int .i64 c]) (.agg #[.int .i64 d, .int .i64 e, .int .i64 f])).run Try.prog w = .ok (a == d && (b == e && c == f)) w := by
  have u3 := Try.underlying3
  have a3 := Try.isAgg3
  have z3 := Try.sizeOf3
  rw [show (10000 : Nat) = 9999 + 1 from rfl, Op.equalIn]
  simp only [Sem.run_bind, run_underlying Try.underlying48, Result.andThen_ok]
  simp only [Std.Legacy.Range.forIn_eq_forIn_range', Std.Legacy.Range.size, Nat.sub_zero, Nat.add_sub_cancel, Nat.div_one, List.range'_succ, List.range'_zero, List.forIn_cons, List.forIn_nil]
  go_simp
  by_cases h1 : a = d <;> by_cases h2 : b = e <;> by_cases h3 : c = f <;> simp [h1, h2, h3]
/-- Whether the cell is an up cell, as the program asks it. -/
def upI (n p q r : Nat) : Bool :=
  ((n : Int) - (Pr.R p : Nat) - 1 == (n : Int) - (Pr.R q : Nat) && ((Pr.R p : Int) - (Pr.C p : Nat) == (Pr.R q : Int) - (Pr.C q : Nat) - 1 && ((Pr.C p : Nat) : Int) == ((Pr.C q : Nat) : Int))) &&
  ((n : Int) - (Pr.R q : Nat) == (n : Int) - (Pr.R r : Nat) && ((Pr.R q : Int) - (Pr.C q : Nat) - 1 == (Pr.R r : Int) - (Pr.C r : Nat) && ((Pr.C q : Nat) : Int) == ((Pr.C r : Nat) : Int) - 1))
set_option maxHeartbeats 1600000 in
theorem isUp_any (n p q r : Nat) (h1 : 1 ≤ n) (h2 : n ≤ 8) (hp : p < 45) (hq : q < 45) (hr : r < 45) (w : World) :
    Calls Try.prog 53 #[.agg #[.int .i64 n], .agg #[.int .i64 p, .int .i64 q, .int .i64 r]] w fun e w' => e = .returned (.bool (upI n p q r)) ∧ Below w.heap.size w w' := by
  have i0 : ∀ w, (Instr.index 65 (.agg #[.int .i64 p, .int .i64 q, .int .i64 r]) (.int .i64 0)).run Try.prog w = .ok (.int .i64 p) w := fun w => by kernel_rfl
  have i1 : ∀ w, (Instr.index 65 (.agg #[.int .i64 p, .int .i64 q, .int .i64 r]) (.int .i64 1)).run Try.prog w = .ok (.int .i64 q) w := fun w => by kernel_rfl
  have i2 : ∀ w, (Instr.index 65 (.agg #[.int .i64 p, .int .i64 q, .int .i64 r]) (.int .i64 2)).run Try.prog w = .ok (.int .i64 r) w := fun w => by kernel_rfl
  obtain ⟨g, hg⟩ : ∃ g, g = w.heap.size + 1 + 1 := ⟨_, rfl⟩
  have H0 := Lib.hid (Pr.RC_bd p hp)
  have H1 := Lib.hid (Pr.RC_bd q hq)
  have H2 := Lib.hid (Pr.RC_bd r hr)
  go_enter Try.func53, Try.ntmps53
  go_wp2_with fail
  refine wp_loop_rounds 4 ?_
  rw [rounds_succ]
  go_wp2_with fail
  refine (spotAt_any n p h1 h2 hp _).mono ?_
  rintro e w1 ⟨rfl, hb1⟩
  rw [← hg]
  have hg1 : w1.heap[g]? = some (.cells (nineA 0 0 0 0 0 0 0 0 0) 81 (0, 0)) := by
    rw [hb1.block g (by simp [hg])]
    have := heap_alloc_new ((w.alloc (.cells #[.int .i64 n] 44)).alloc (.cells #[.int .i64 p, .int .i64 q, .int .i64 r] 65)) (.cells (nineA 0 0 0 0 0 0 0 0 0) 81 (0, 0))
    rw [World.size_alloc, World.size_alloc] at this
    rw [hg]
    exact this
  have hm1 : w1.heap[w.heap.size]? = some (.cells #[.int .i64 n] 44 (0, 0)) := by
    rw [hb1.block w.heap.size (by simp; omega), Below.heap_alloc _ _ _ (by simp; omega), Below.heap_alloc _ _ _ (by simp)]
    exact heap_alloc_new _ _
  have hB1 := bnext (balloc (balloc (balloc (Below.refl w.heap.size w) (.cells #[.int .i64 n] 44)) (.cells #[.int .i64 p, .int .i64 q, .int .i64 r] 65)) (.cells (nineA 0 0 0 0 0 0 0 0 0) 81 (0, 0))) hb1
  have hgl : w.heap.size < g := by omega
  have hgs1 : g < w1.heap.size := by have := hb1.size; simp at this; omega
  clear hb1 hg
  have a0 : w1.cell? ⟨g, 0, none⟩ = some (.int .i64 0) := by rw [cell_of_row w1 g 0 _ _ _ hg1]; rfl
  have f0 := frozen_of_row w1 g 0 _ _ hg1
  have a1 : w1.cell? ⟨g, 1, none⟩ = some (.int .i64 0) := by rw [cell_of_row w1 g 1 _ _ _ hg1]; rfl
  have f1 := frozen_of_row w1 g 1 _ _ hg1
  have a2 : w1.cell? ⟨g, 2, none⟩ = some (.int .i64 0) := by rw [cell_of_row w1 g 2 _ _ _ hg1]; rfl
  have f2 := frozen_of_row w1 g 2 _ _ hg1
  go_wp2_with fail
  have hgd : (((w1.setCell ⟨g, 0, none⟩ (.int .i64 ((n : Int) - (Pr.R p : Nat)))).setCell ⟨g, 1, none⟩ (.int .i64 ((Pr.R p : Int) - (Pr.C p : Nat)))).setCell ⟨g, 2, none⟩ (.int .i64 ((Pr.C p : Nat) : Int))).heap[g]? = some (.cells (nineA ((n : Int) - (Pr.R p : Nat)) ((Pr.R p : Int) - (Pr.C p : Nat)) ((Pr.C p : Nat) : Int) 0 0 0 0 0 0) 81 (0, 0)) := heap_setCell_same _ g 2 _ _ _ (heap_setCell_same _ g 1 _ _ _ (heap_setCell_same _ g 0 _ _ _ hg1))
  have hmd := (heap_setCell_other ((w1.setCell ⟨g, 0, none⟩ (.int .i64 ((n : Int) - (Pr.R p : Nat)))).setCell ⟨g, 1, none⟩ (.int .i64 ((Pr.R p : Int) - (Pr.C p : Nat)))) ⟨g, 2, none⟩ w.heap.size (.int .i64 ((Pr.C p : Nat) : Int)) (by simp; omega)).trans ((heap_setCell_other (w1.setCell ⟨g, 0, none⟩ (.int .i64 ((n : Int) - (Pr.R p : Nat)))) ⟨g, 1, none⟩ w.heap.size (.int .i64 ((Pr.R p : Int) - (Pr.C p : Nat))) (by simp; omega)).trans ((heap_setCell_other w1 ⟨g, 0, none⟩ w.heap.size (.int .i64 ((n : Int) - (Pr.R p : Nat))) (by simp; omega)).trans hm1))
  have hBd := ((hB1.setCell (p := ⟨g, 0, none⟩) (by simp; omega) (.int .i64 ((n : Int) - (Pr.R p : Nat)))).setCell (p := ⟨g, 1, none⟩) (by simp; omega) (.int .i64 ((Pr.R p : Int) - (Pr.C p : Nat)))).setCell (p := ⟨g, 2, none⟩) (by simp; omega) (.int .i64 ((Pr.C p : Nat) : Int))
  have hgsd : g < (((w1.setCell ⟨g, 0, none⟩ (.int .i64 ((n : Int) - (Pr.R p : Nat)))).setCell ⟨g, 1, none⟩ (.int .i64 ((Pr.R p : Int) - (Pr.C p : Nat)))).setCell ⟨g, 2, none⟩ (.int .i64 ((Pr.C p : Nat) : Int))).heap.size := by simpa using hgs1
  generalize (((w1.setCell ⟨g, 0, none⟩ (.int .i64 ((n : Int) - (Pr.R p : Nat)))).setCell ⟨g, 1, none⟩ (.int .i64 ((Pr.R p : Int) - (Pr.C p : Nat)))).setCell ⟨g, 2, none⟩ (.int .i64 ((Pr.C p : Nat) : Int))) = x1 at hgd hmd hBd hgsd ⊢
  clear a0 a1 a2 f0 f1 f2 hg1 hm1 hB1 hgs1
  have cd : x1.cell? ⟨g, 0, none⟩ = some (.int .i64 ((n : Int) - (Pr.R p : Nat))) := by rw [cell_of_row x1 g 0 _ _ _ hgd]; rfl
  have fd := frozen_of_row x1 g 0 _ _ hgd
  have HRC := H0.out
  go_region
  clear HRC
  have hgy1 : (x1.setCell ⟨g, 0, none⟩ (.int .i64 (((n : Int) - (Pr.R p : Nat)) - 1))).drew.heap[g]? = some (.cells (nineA (((n : Int) - (Pr.R p : Nat)) - 1) ((Pr.R p : Int) - (Pr.C p : Nat)) ((Pr.C p : Nat) : Int) 0 0 0 0 0 0) 81 (0, 0)) := heap_setCell_same x1 g 0 _ _ _ hgd
  have hmy1 : (x1.setCell ⟨g, 0, none⟩ (.int .i64 (((n : Int) - (Pr.R p : Nat)) - 1))).drew.heap[w.heap.size]? = some (.cells #[.int .i64 n] 44 (0, 0)) := (heap_setCell_other x1 ⟨g, 0, none⟩ w.heap.size (.int .i64 (((n : Int) - (Pr.R p : Nat)) - 1)) (by simp; omega)).trans hmd
  have hBy1 := (hBd.setCell (p := ⟨g, 0, none⟩) (by simp; omega) (.int .i64 (((n : Int) - (Pr.R p : Nat)) - 1))).drew
  have hgsy1 : g < (x1.setCell ⟨g, 0, none⟩ (.int .i64 (((n : Int) - (Pr.R p : Nat)) - 1))).drew.heap.size := by simpa [World.drew] using hgsd
  generalize (x1.setCell ⟨g, 0, none⟩ (.int .i64 (((n : Int) - (Pr.R p : Nat)) - 1))).drew = y1 at hgy1 hmy1 hBy1 hgsy1 ⊢
  clear cd fd hgd hmd hBd hgsd
  have dcy1 : y1.cell? ⟨w.heap.size, 0, none⟩ = some (.int .i64 n) := by rw [cell_of_row _ _ 0 _ _ _ hmy1]; rfl
  go_wp2_with fail
  rw [rounds_succ]
  go_wp2_with fail
  refine (spotAt_any n q h1 h2 hq _).mono ?_
  rintro e w2 ⟨rfl, hb2⟩
  have hg2 : w2.heap[g]? = some (.cells (nineA (((n : Int) - (Pr.R p : Nat)) - 1) ((Pr.R p : Int) - (Pr.C p : Nat)) ((Pr.C p : Nat) : Int) 0 0 0 0 0 0) 81 (0, 0)) := (hb2.block g hgsy1).trans hgy1
  have hm2 : w2.heap[w.heap.size]? = some (.cells #[.int .i64 n] 44 (0, 0)) := (hb2.block w.heap.size (by omega)).trans hmy1
  have hB2 := bnext hBy1 hb2
  have hgs2 : g < w2.heap.size := by have := hb2.size; omega
  clear hb2 hgy1 hmy1 hBy1 hgsy1 dcy1
  have a0 : w2.cell? ⟨g, 3, none⟩ = some (.int .i64 0) := by rw [cell_of_row w2 g 3 _ _ _ hg2]; rfl
  have f0 := frozen_of_row w2 g 3 _ _ hg2
  have a1 : w2.cell? ⟨g, 4, none⟩ = some (.int .i64 0) := by rw [cell_of_row w2 g 4 _ _ _ hg2]; rfl
  have f1 := frozen_of_row w2 g 4 _ _ hg2
  have a2 : w2.cell? ⟨g, 5, none⟩ = some (.int .i64 0) := by rw [cell_of_row w2 g 5 _ _ _ hg2]; rfl
  have f2 := frozen_of_row w2 g 5 _ _ hg2
  go_wp2_with fail
  have hgd : (((w2.setCell ⟨g, 3, none⟩ (.int .i64 ((n : Int) - (Pr.R q : Nat)))).setCell ⟨g, 4, none⟩ (.int .i64 ((Pr.R q : Int) - (Pr.C q : Nat)))).setCell ⟨g, 5, none⟩ (.int .i64 ((Pr.C q : Nat) : Int))).heap[g]? = some (.cells (nineA (((n : Int) - (Pr.R p : Nat)) - 1) ((Pr.R p : Int) - (Pr.C p : Nat)) ((Pr.C p : Nat) : Int) ((n : Int) - (Pr.R q : Nat)) ((Pr.R q : Int) - (Pr.C q : Nat)) ((Pr.C q : Nat) : Int) 0 0 0) 81 (0, 0)) := heap_setCell_same _ g 5 _ _ _ (heap_setCell_same _ g 4 _ _ _ (heap_setCell_same _ g 3 _ _ _ hg2))
  have hmd := (heap_setCell_other ((w2.setCell ⟨g, 3, none⟩ (.int .i64 ((n : Int) - (Pr.R q : Nat)))).setCell ⟨g, 4, none⟩ (.int .i64 ((Pr.R q : Int) - (Pr.C q : Nat)))) ⟨g, 5, none⟩ w.heap.size (.int .i64 ((Pr.C q : Nat) : Int)) (by simp; omega)).trans ((heap_setCell_other (w2.setCell ⟨g, 3, none⟩ (.int .i64 ((n : Int) - (Pr.R q : Nat)))) ⟨g, 4, none⟩ w.heap.size (.int .i64 ((Pr.R q : Int) - (Pr.C q : Nat))) (by simp; omega)).trans ((heap_setCell_other w2 ⟨g, 3, none⟩ w.heap.size (.int .i64 ((n : Int) - (Pr.R q : Nat))) (by simp; omega)).trans hm2))
  have hBd := ((hB2.setCell (p := ⟨g, 3, none⟩) (by simp; omega) (.int .i64 ((n : Int) - (Pr.R q : Nat)))).setCell (p := ⟨g, 4, none⟩) (by simp; omega) (.int .i64 ((Pr.R q : Int) - (Pr.C q : Nat)))).setCell (p := ⟨g, 5, none⟩) (by simp; omega) (.int .i64 ((Pr.C q : Nat) : Int))
  have hgsd : g < (((w2.setCell ⟨g, 3, none⟩ (.int .i64 ((n : Int) - (Pr.R q : Nat)))).setCell ⟨g, 4, none⟩ (.int .i64 ((Pr.R q : Int) - (Pr.C q : Nat)))).setCell ⟨g, 5, none⟩ (.int .i64 ((Pr.C q : Nat) : Int))).heap.size := by simpa using hgs2
  generalize (((w2.setCell ⟨g, 3, none⟩ (.int .i64 ((n : Int) - (Pr.R q : Nat)))).setCell ⟨g, 4, none⟩ (.int .i64 ((Pr.R q : Int) - (Pr.C q : Nat)))).setCell ⟨g, 5, none⟩ (.int .i64 ((Pr.C q : Nat) : Int))) = x2 at hgd hmd hBd hgsd ⊢
  clear a0 a1 a2 f0 f1 f2 hg2 hm2 hB2 hgs2
  have cd : x2.cell? ⟨g, 4, none⟩ = some (.int .i64 ((Pr.R q : Int) - (Pr.C q : Nat))) := by rw [cell_of_row x2 g 4 _ _ _ hgd]; rfl
  have fd := frozen_of_row x2 g 4 _ _ hgd
  have HRC := H1.out
  go_region
  clear HRC
  have hgy2 : (x2.setCell ⟨g, 4, none⟩ (.int .i64 (((Pr.R q : Int) - (Pr.C q : Nat)) - 1))).drew.heap[g]? = some (.cells (nineA (((n : Int) - (Pr.R p : Nat)) - 1) ((Pr.R p : Int) - (Pr.C p : Nat)) ((Pr.C p : Nat) : Int) ((n : Int) - (Pr.R q : Nat)) (((Pr.R q : Int) - (Pr.C q : Nat)) - 1) ((Pr.C q : Nat) : Int) 0 0 0) 81 (0, 0)) := heap_setCell_same x2 g 4 _ _ _ hgd
  have hmy2 : (x2.setCell ⟨g, 4, none⟩ (.int .i64 (((Pr.R q : Int) - (Pr.C q : Nat)) - 1))).drew.heap[w.heap.size]? = some (.cells #[.int .i64 n] 44 (0, 0)) := (heap_setCell_other x2 ⟨g, 4, none⟩ w.heap.size (.int .i64 (((Pr.R q : Int) - (Pr.C q : Nat)) - 1)) (by simp; omega)).trans hmd
  have hBy2 := (hBd.setCell (p := ⟨g, 4, none⟩) (by simp; omega) (.int .i64 (((Pr.R q : Int) - (Pr.C q : Nat)) - 1))).drew
  have hgsy2 : g < (x2.setCell ⟨g, 4, none⟩ (.int .i64 (((Pr.R q : Int) - (Pr.C q : Nat)) - 1))).drew.heap.size := by simpa [World.drew] using hgsd
  generalize (x2.setCell ⟨g, 4, none⟩ (.int .i64 (((Pr.R q : Int) - (Pr.C q : Nat)) - 1))).drew = y2 at hgy2 hmy2 hBy2 hgsy2 ⊢
  clear cd fd hgd hmd hBd hgsd
  have dcy2 : y2.cell? ⟨w.heap.size, 0, none⟩ = some (.int .i64 n) := by rw [cell_of_row _ _ 0 _ _ _ hmy2]; rfl
  go_wp2_with fail
  rw [rounds_succ]
  go_wp2_with fail
  refine (spotAt_any n r h1 h2 hr _).mono ?_
  rintro e w3 ⟨rfl, hb3⟩
  have hg3 : w3.heap[g]? = some (.cells (nineA (((n : Int) - (Pr.R p : Nat)) - 1) ((Pr.R p : Int) - (Pr.C p : Nat)) ((Pr.C p : Nat) : Int) ((n : Int) - (Pr.R q : Nat)) (((Pr.R q : Int) - (Pr.C q : Nat)) - 1) ((Pr.C q : Nat) : Int) 0 0 0) 81 (0, 0)) := (hb3.block g hgsy2).trans hgy2
  have hm3 : w3.heap[w.heap.size]? = some (.cells #[.int .i64 n] 44 (0, 0)) := (hb3.block w.heap.size (by omega)).trans hmy2
  have hB3 := bnext hBy2 hb3
  have hgs3 : g < w3.heap.size := by have := hb3.size; omega
  clear hb3 hgy2 hmy2 hBy2 hgsy2 dcy2
  have a0 : w3.cell? ⟨g, 6, none⟩ = some (.int .i64 0) := by rw [cell_of_row w3 g 6 _ _ _ hg3]; rfl
  have f0 := frozen_of_row w3 g 6 _ _ hg3
  have a1 : w3.cell? ⟨g, 7, none⟩ = some (.int .i64 0) := by rw [cell_of_row w3 g 7 _ _ _ hg3]; rfl
  have f1 := frozen_of_row w3 g 7 _ _ hg3
  have a2 : w3.cell? ⟨g, 8, none⟩ = some (.int .i64 0) := by rw [cell_of_row w3 g 8 _ _ _ hg3]; rfl
  have f2 := frozen_of_row w3 g 8 _ _ hg3
  go_wp2_with fail
  have hgd : (((w3.setCell ⟨g, 6, none⟩ (.int .i64 ((n : Int) - (Pr.R r : Nat)))).setCell ⟨g, 7, none⟩ (.int .i64 ((Pr.R r : Int) - (Pr.C r : Nat)))).setCell ⟨g, 8, none⟩ (.int .i64 ((Pr.C r : Nat) : Int))).heap[g]? = some (.cells (nineA (((n : Int) - (Pr.R p : Nat)) - 1) ((Pr.R p : Int) - (Pr.C p : Nat)) ((Pr.C p : Nat) : Int) ((n : Int) - (Pr.R q : Nat)) (((Pr.R q : Int) - (Pr.C q : Nat)) - 1) ((Pr.C q : Nat) : Int) ((n : Int) - (Pr.R r : Nat)) ((Pr.R r : Int) - (Pr.C r : Nat)) ((Pr.C r : Nat) : Int)) 81 (0, 0)) := heap_setCell_same _ g 8 _ _ _ (heap_setCell_same _ g 7 _ _ _ (heap_setCell_same _ g 6 _ _ _ hg3))
  have hmd := (heap_setCell_other ((w3.setCell ⟨g, 6, none⟩ (.int .i64 ((n : Int) - (Pr.R r : Nat)))).setCell ⟨g, 7, none⟩ (.int .i64 ((Pr.R r : Int) - (Pr.C r : Nat)))) ⟨g, 8, none⟩ w.heap.size (.int .i64 ((Pr.C r : Nat) : Int)) (by simp; omega)).trans ((heap_setCell_other (w3.setCell ⟨g, 6, none⟩ (.int .i64 ((n : Int) - (Pr.R r : Nat)))) ⟨g, 7, none⟩ w.heap.size (.int .i64 ((Pr.R r : Int) - (Pr.C r : Nat))) (by simp; omega)).trans ((heap_setCell_other w3 ⟨g, 6, none⟩ w.heap.size (.int .i64 ((n : Int) - (Pr.R r : Nat))) (by simp; omega)).trans hm3))
  have hBd := ((hB3.setCell (p := ⟨g, 6, none⟩) (by simp; omega) (.int .i64 ((n : Int) - (Pr.R r : Nat)))).setCell (p := ⟨g, 7, none⟩) (by simp; omega) (.int .i64 ((Pr.R r : Int) - (Pr.C r : Nat)))).setCell (p := ⟨g, 8, none⟩) (by simp; omega) (.int .i64 ((Pr.C r : Nat) : Int))
  have hgsd : g < (((w3.setCell ⟨g, 6, none⟩ (.int .i64 ((n : Int) - (Pr.R r : Nat)))).setCell ⟨g, 7, none⟩ (.int .i64 ((Pr.R r : Int) - (Pr.C r : Nat)))).setCell ⟨g, 8, none⟩ (.int .i64 ((Pr.C r : Nat) : Int))).heap.size := by simpa using hgs3
  generalize (((w3.setCell ⟨g, 6, none⟩ (.int .i64 ((n : Int) - (Pr.R r : Nat)))).setCell ⟨g, 7, none⟩ (.int .i64 ((Pr.R r : Int) - (Pr.C r : Nat)))).setCell ⟨g, 8, none⟩ (.int .i64 ((Pr.C r : Nat) : Int))) = x3 at hgd hmd hBd hgsd ⊢
  clear a0 a1 a2 f0 f1 f2 hg3 hm3 hB3 hgs3
  have cd : x3.cell? ⟨g, 8, none⟩ = some (.int .i64 ((Pr.C r : Nat) : Int)) := by rw [cell_of_row x3 g 8 _ _ _ hgd]; rfl
  have fd := frozen_of_row x3 g 8 _ _ hgd
  have HRC := H2.out
  go_region
  clear HRC
  have hgy3 : (x3.setCell ⟨g, 8, none⟩ (.int .i64 (((Pr.C r : Nat) : Int) - 1))).drew.heap[g]? = some (.cells (nineA (((n : Int) - (Pr.R p : Nat)) - 1) ((Pr.R p : Int) - (Pr.C p : Nat)) ((Pr.C p : Nat) : Int) ((n : Int) - (Pr.R q : Nat)) (((Pr.R q : Int) - (Pr.C q : Nat)) - 1) ((Pr.C q : Nat) : Int) ((n : Int) - (Pr.R r : Nat)) ((Pr.R r : Int) - (Pr.C r : Nat)) (((Pr.C r : Nat) : Int) - 1)) 81 (0, 0)) := heap_setCell_same x3 g 8 _ _ _ hgd
  have hmy3 : (x3.setCell ⟨g, 8, none⟩ (.int .i64 (((Pr.C r : Nat) : Int) - 1))).drew.heap[w.heap.size]? = some (.cells #[.int .i64 n] 44 (0, 0)) := (heap_setCell_other x3 ⟨g, 8, none⟩ w.heap.size (.int .i64 (((Pr.C r : Nat) : Int) - 1)) (by simp; omega)).trans hmd
  have hBy3 := (hBd.setCell (p := ⟨g, 8, none⟩) (by simp; omega) (.int .i64 (((Pr.C r : Nat) : Int) - 1))).drew
  have hgsy3 : g < (x3.setCell ⟨g, 8, none⟩ (.int .i64 (((Pr.C r : Nat) : Int) - 1))).drew.heap.size := by simpa [World.drew] using hgsd
  generalize (x3.setCell ⟨g, 8, none⟩ (.int .i64 (((Pr.C r : Nat) : Int) - 1))).drew = y3 at hgy3 hmy3 hBy3 hgsy3 ⊢
  clear cd fd hgd hmd hBd hgsd
  have dcy3 : y3.cell? ⟨w.heap.size, 0, none⟩ = some (.int .i64 n) := by rw [cell_of_row _ _ 0 _ _ _ hmy3]; rfl
  go_wp2_with fail
  rw [rounds_succ]
  have z0 : Hid (∃ v, v = (((n : Int) - (Pr.R p : Nat)) - 1) ∧ y3.cell? ⟨g, 0, none⟩ = some (.int .i64 v)) := Lib.hid ⟨_, rfl, by rw [cell_of_row y3 g 0 _ _ _ hgy3]; rfl⟩
  have z1 : Hid (∃ v, v = ((Pr.R p : Int) - (Pr.C p : Nat)) ∧ y3.cell? ⟨g, 1, none⟩ = some (.int .i64 v)) := Lib.hid ⟨_, rfl, by rw [cell_of_row y3 g 1 _ _ _ hgy3]; rfl⟩
  have z2 : Hid (∃ v, v = ((Pr.C p : Nat) : Int) ∧ y3.cell? ⟨g, 2, none⟩ = some (.int .i64 v)) := Lib.hid ⟨_, rfl, by rw [cell_of_row y3 g 2 _ _ _ hgy3]; rfl⟩
  have z3 : Hid (∃ v, v = ((n : Int) - (Pr.R q : Nat)) ∧ y3.cell? ⟨g, 3, none⟩ = some (.int .i64 v)) := Lib.hid ⟨_, rfl, by rw [cell_of_row y3 g 3 _ _ _ hgy3]; rfl⟩
  have z4 : Hid (∃ v, v = (((Pr.R q : Int) - (Pr.C q : Nat)) - 1) ∧ y3.cell? ⟨g, 4, none⟩ = some (.int .i64 v)) := Lib.hid ⟨_, rfl, by rw [cell_of_row y3 g 4 _ _ _ hgy3]; rfl⟩
  have z5 : Hid (∃ v, v = ((Pr.C q : Nat) : Int) ∧ y3.cell? ⟨g, 5, none⟩ = some (.int .i64 v)) := Lib.hid ⟨_, rfl, by rw [cell_of_row y3 g 5 _ _ _ hgy3]; rfl⟩
  have z6 : Hid (∃ v, v = ((n : Int) - (Pr.R r : Nat)) ∧ y3.cell? ⟨g, 6, none⟩ = some (.int .i64 v)) := Lib.hid ⟨_, rfl, by rw [cell_of_row y3 g 6 _ _ _ hgy3]; rfl⟩
  have z7 : Hid (∃ v, v = ((Pr.R r : Int) - (Pr.C r : Nat)) ∧ y3.cell? ⟨g, 7, none⟩ = some (.int .i64 v)) := Lib.hid ⟨_, rfl, by rw [cell_of_row y3 g 7 _ _ _ hgy3]; rfl⟩
  have z8 : Hid (∃ v, v = (((Pr.C r : Nat) : Int) - 1) ∧ y3.cell? ⟨g, 8, none⟩ = some (.int .i64 v)) := Lib.hid ⟨_, rfl, by rw [cell_of_row y3 g 8 _ _ _ hgy3]; rfl⟩
  clear hgy3 hmy3 hgsy3 dcy3 hgl
  obtain ⟨v0, e0, c0⟩ := z0.out
  obtain ⟨v1, e1, c1⟩ := z1.out
  obtain ⟨v2, e2, c2⟩ := z2.out
  obtain ⟨v3, e3, c3⟩ := z3.out
  obtain ⟨v4, e4, c4⟩ := z4.out
  obtain ⟨v5, e5, c5⟩ := z5.out
  obtain ⟨v6, e6, c6⟩ := z6.out
  obtain ⟨v7, e7, c7⟩ := z7.out
  obtain ⟨v8, e8, c8⟩ := z8.out
  have E0 := Lib.hid e0
  have E1 := Lib.hid e1
  have E2 := Lib.hid e2
  have E3 := Lib.hid e3
  have E4 := Lib.hid e4
  have E5 := Lib.hid e5
  have E6 := Lib.hid e6
  have E7 := Lib.hid e7
  have E8 := Lib.hid e8
  clear z0 z1 z2 z3 z4 z5 z6 z7 z8 e0 e1 e2 e3 e4 e5 e6 e7 e8
  have HU : Hid (upI n p q r = ((v0 == v3 && (v1 == v4 && v2 == v5)) && (v3 == v6 && (v4 == v7 && v5 == v8)))) := by
    rw [E0.out, E1.out, E2.out, E3.out, E4.out, E5.out, E6.out, E7.out, E8.out]
    exact Lib.hid rfl
  have q1 := fun w => eqSpot v0 v1 v2 v3 v4 v5 w
  have q2 := fun w => eqSpot v3 v4 v5 v6 v7 v8 w
  generalize (v0 == v3 && (v1 == v4 && v2 == v5)) = B1 at q1 HU
  generalize (v3 == v6 && (v4 == v7 && v5 == v8)) = B2 at q2 HU
  clear E0 E1 E2 E3 E4 E5 E6 E7 E8 i0 i1 i2
  cases B1
  · go_wp2_with fail
    go_ret
    exact ⟨by rw [HU.out]; rfl, hBy3⟩
  · go_wp2_with fail
    go_ret
    exact ⟨by rw [HU.out]; rfl, hBy3⟩
end Go.Proofs.Ytgblcohgnagpcaa
