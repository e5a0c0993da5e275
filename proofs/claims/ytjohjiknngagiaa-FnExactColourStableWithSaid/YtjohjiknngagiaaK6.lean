import Derived.Test.YtjohjiknngagiaaK5
import Derived.Laws.BitsLemmas
namespace Go.Proofs.Ytjohjiknngagiaa
open Go.RowKit
set_option maxRecDepth 4000
theorem w63 (n : Int) (h0 : 0 ≤ n) (h1 : n < 2 ^ 63) : IntKind.i64.wrap n = n := IntWalk.i64_in _ ⟨by omega, by omega⟩
theorem andN (a b : Nat) (ha : a < 2 ^ 63) (hb : b < 2 ^ 63) : bits .and .i64 (a : Int) (b : Int) = ((a &&& b : Nat) : Int) := (bits_nat .i64 63 (by decide) w63 a b ha hb).1
theorem orN (a b : Nat) (ha : a < 2 ^ 63) (hb : b < 2 ^ 63) : bits .or .i64 (a : Int) (b : Int) = ((a ||| b : Nat) : Int) := (bits_nat .i64 63 (by decide) w63 a b ha hb).2
theorem has_all : ∀ s : Nat, s < 256 → ∀ i : Nat, i < 9 → (bits BinOp.and IntKind.i64 ((s : Int) / 2 ^ i) 1 == 1) = s.testBit i := by decide +kernel
set_option maxHeartbeats 400000 in
theorem hasB_any (s i : Nat) (hs : s < 256) (hi : i < 9) (w : World) :
    Calls Try.prog 73 #[.int .i64 s, .int .i64 i] w fun e w' => e = .returned (.bool (s.testBit i)) ∧ w = w' := by
  have h := Lib.hid (has_all s hs i hi)
  go_enter Try.func73, Try.ntmps73
  go_wp2_with fail
  go_ret
  exact ⟨ret_bool h.out, rfl⟩
theorem apart_eq (s t : Nat) (hs : s < 256) (ht : t < 256) : (bits BinOp.and IntKind.i64 (s : Int) (t : Int) == 0) = decide (s &&& t = 0) := by
  rw [andN s t (by omega) (by omega), Bool.eq_iff_iff]
  simp only [beq_iff_eq, decide_eq_true_eq]
  omega
set_option maxHeartbeats 400000 in
theorem isApart_any (s t : Nat) (hs : s < 256) (ht : t < 256) (w : World) :
    Calls Try.prog 54 #[.int .i64 s, .int .i64 t] w fun e w' => e = .returned (.bool (decide (s &&& t = 0))) ∧ w = w' := by
  have h := Lib.hid (apart_eq s t hs ht)
  go_enter Try.func54, Try.ntmps54
  go_wp2_with fail
  go_ret
  exact ⟨ret_bool h.out, rfl⟩
def allM (n k : Nat) : Bool := decide (n < 2 * k)
set_option maxHeartbeats 400000 in
theorem allMeet_any (a : Option Addr) (len cap n k : Nat) (_ : n ≤ 8) (hk : k ≤ 8) (w : World) :
    Calls Try.prog 66 #[.agg #[.slice a len cap, .int .i64 n, .int .i64 k]] w fun e w' => e = .returned (.bool (allM n k)) ∧ Below w.heap.size w w' := by
  have hb := balloc (Below.refl w.heap.size w) (.cells #[.slice a len cap, .int .i64 n, .int .i64 k] 48)
  have g1 := heap_alloc_new w (.cells #[.slice a len cap, .int .i64 n, .int .i64 k] 48)
  have c1 := blk_cell g1 1 (.int .i64 n) rfl
  have c2 := blk_cell g1 2 (.int .i64 k) rfl
  have hE : Hid (allM n k = decide ((n : Int) < 2 * (k : Int))) := Lib.hid (by simp only [allM]; congr 1; rw [eq_iff_iff]; omega)
  clear g1
  go_enter Try.func66, Try.ntmps66
  go_wp2_with fail
  go_ret
  exact ⟨ret_bool (by rw [hE.out]), hb⟩
def fewK (n k : Nat) : Nat := if n < 2 * k then 1 else n + 2 - 2 * k
set_option maxHeartbeats 800000 in
theorem fewest_any (a : Option Addr) (len cap n k : Nat) (hn : n ≤ 8) (hk : k ≤ 8) (w : World) :
    Calls Try.prog 44 #[.agg #[.slice a len cap, .int .i64 n, .int .i64 k]] w fun e w' => e = .returned (.int .i64 (fewK n k : Nat)) ∧ Below w.heap.size w w' := by
  obtain ⟨w1, hw1⟩ : ∃ w1, w1 = w.alloc (.cells #[.slice a len cap, .int .i64 n, .int .i64 k] 48) := ⟨_, rfl⟩
  have hb1 : Below w.heap.size w w1 := by rw [hw1]; exact balloc (Below.refl w.heap.size w) _
  have g1 : w1.heap[w.heap.size]? = some (.cells #[.slice a len cap, .int .i64 n, .int .i64 k] 48 (0, 0)) := by rw [hw1]; exact heap_alloc_new w _
  have c0 : w1.cell? ⟨w.heap.size, 0, none⟩ = some (.slice a len cap) := blk_cell g1 0 _ rfl
  have c1 : w1.cell? ⟨w.heap.size, 1, none⟩ = some (.int .i64 n) := blk_cell g1 1 _ rfl
  have c2 : w1.cell? ⟨w.heap.size, 2, none⟩ = some (.int .i64 k) := blk_cell g1 2 _ rfl
  have hl := hp_lt g1
  have HA := Lib.hid (allMeet_any a len cap n k hn hk w1)
  have HW := Lib.hid hw1
  have HG := Lib.hid g1
  by_cases h : n < 2 * k
  · have ha : allM n k = true := by simp [allM, h]
    have hf : Hid (fewK n k = 1) := Lib.hid (by simp [fewK, h])
    rw [ha] at HA
    clear hw1 g1 ha
    go_enter Try.func44, Try.ntmps44
    go_wp2_with fail
    rw [← HW.out]
    go_wp2_with fail
    refine HA.out.mono ?_
    rintro e w2 ⟨rfl, hb2⟩
    go_wp2_with fail
    go_ret
    exact ⟨ret_int (by rw [hf.out]; rfl), bnext hb1 hb2⟩
  · have ha : allM n k = false := by simp [allM]; omega
    have hf : Hid (((fewK n k : Nat) : Int) = (n : Int) - 2 * (k : Int) + 2) := Lib.hid (by simp only [fewK, if_neg h]; omega)
    rw [ha] at HA
    clear hw1 g1 ha
    go_enter Try.func44, Try.ntmps44
    go_wp2_with fail
    rw [← HW.out]
    go_wp2_with fail
    refine HA.out.mono ?_
    rintro e w2 ⟨rfl, hb2⟩
    have g2 := hp_keep HG.out hb2 hl
    have d1 : w2.cell? ⟨w.heap.size, 1, none⟩ = some (.int .i64 n) := blk_cell g2 1 _ rfl
    have d2 : w2.cell? ⟨w.heap.size, 2, none⟩ = some (.int .i64 k) := blk_cell g2 2 _ rfl
    clear g2
    go_wp2_with fail
    go_ret
    exact ⟨ret_int (by rw [hf.out]), bnext hb1 hb2⟩
end Go.Proofs.Ytjohjiknngagiaa
