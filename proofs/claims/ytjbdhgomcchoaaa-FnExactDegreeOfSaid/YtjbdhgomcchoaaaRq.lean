import Derived.Test.YtjbdhgomcchoaaaRp
namespace Go.Proofs.Ytjbdhgomcchoaaa
open Go.RowKit
set_option maxHeartbeats 1600000 in
theorem roomsOf_no (n : Int) (xs : List Int) (a : Option Addr) (b len cap : Nat) (w : World) (hn : xs.length = len) (hsm : len ≤ 1048576) (h : Rd w a b 0 xs) (hb0 : len = 0 ∨ b < w.heap.size) (hL : labB n xs = false) :
    Calls Try.prog 61 #[.int .i64 n, .slice a len cap] w fun e w' => e = .returned (.tuple #[.agg zeroR, .bool false]) ∧ Below w.heap.size w w' := by
  have hB0 := balloc (Below.refl w.heap.size w) (.cells zeroR 66)
  have hlab := labelledOf_any n xs a b len cap (w.alloc (.cells zeroR 66)) hn hsm (h.later hn hb0 hB0) (lt_later hb0 hB0)
  rw [hL] at hlab
  simp only [Bool.false_eq_true, if_false] at hlab
  have HL := Lib.hid hlab
  clear hL hn h hb0 hlab
  go_enter Try.func61, Try.ntmps61
  go_wp2_with (with_reducible refine alloc_rm rfl rfl ?_)
  refine HL.out.mono ?_
  rintro e w1 ⟨rfl, hb1⟩
  have hr1 : Hid (w1.heap[w.heap.size]? = some (.cells zeroR 66 (0, 0))) := Lib.hid ((hb1.block _ (by simp)).trans (heap_alloc_new _ _))
  have hB1 := bnext hB0 hb1
  have hlt1 : w.heap.size < w1.heap.size := by have := hb1.size; simp at this; omega
  clear hb1 hB0
  go_wp2_with (first | (with_reducible refine alloc_lab rfl rfl ?_; have hg2 : Hid ((w1.alloc (.cells zeroA 63)).heap[w1.heap.size]? = some (.cells zeroA 63 (0, 0))) := Lib.hid (heap_alloc_new _ _)) | ((with_reducible refine store_lab rfl _ _ rfl w1.heap.size zeroA zeroA ?_ ?_ hg2.out zeroA_size zeroA_size zeroA_one w1.heap.size (Nat.le_refl _) ?_); exact rfl; exact rfl; intro w3 hg3 hb3; have hB3 := hB1.trans (Below.mono ((balloc (Below.refl w1.heap.size w1) (.cells zeroA 63)).trans hb3) hB1.size); have hr3 : Hid (w3.heap[w.heap.size]? = some (.cells zeroR 66 (0, 0))) := Lib.hid ((((balloc (Below.refl w1.heap.size w1) (.cells zeroA 63)).trans hb3).block _ hlt1).trans hr1.out)) | (with_reducible refine build0_rm rfl rfl ?_) | ((with_reducible refine store_rm rfl _ _ rfl w.heap.size zeroR zeroR ?_ ?_ hr3.out zeroR_size zeroR_size zeroR_one w.heap.size (Nat.le_refl _) ?_); exact rfl; exact rfl; intro w4 hg4 hb4; have hB4 := hB3.trans hb4))
  exact bodyPost_ret (results_rm rfl _ _ w.heap.size _ _ rfl rfl hg4 zeroR_size) rfl ⟨rfl, hB4⟩
/-- The door between two points: their labels have the sum 1. -/
def doorB (xs : List Int) (i j : Int) : Bool := xs.getD i.toNat 0 + xs.getD j.toNat 0 == 1
theorem lab_cell {w : World} {g n : Nat} {xs : List Int} (hg : w.heap[g]? = some (.cells (labL n xs).toArray 63 (0, 0))) (k : Nat) (hk : k < xs.length) : w.cell? ⟨g, 1 + k, none⟩ = some (.int .i64 (xs.getD k 0)) := by
  rw [cell_of_row _ _ _ _ _ (0, 0) hg]
  simp only [labL, List.getElem?_toArray]
  rw [show 1 + k = k + 1 by omega, List.getElem?_cons_succ, List.getElem?_append_left (by simpa using hk), List.getElem?_map, List.getElem?_eq_getElem hk]
  simp [List.getD, hk]
theorem allB_at2 {xs : List Int} (h : allB 0 2 xs = true) (k : Nat) (hk : k < xs.length) : 0 ≤ xs.getD k 0 ∧ xs.getD k 0 ≤ 2 := allB_at h k hk
set_option maxHeartbeats 800000 in
/-- What the function of the rooms answers of two points. -/
theorem isDoor_any (n : Nat) (xs : List Int) (i j g : Nat) (hL : labB n xs = true) (hi : i < xs.length) (hj : j < xs.length) (w : World) (hg : w.heap[g]? = some (.cells (labL n xs).toArray 63 (0, 0))) (hgl : g < w.heap.size) :
    Calls Try.prog 88 #[.agg #[.int .i64 i, .int .i64 j], .pointer (some ⟨g, 0, none⟩)] w fun e w' => e = .returned (.bool (doorB xs i j)) ∧ Below w.heap.size w w' := by
  obtain ⟨h1, h2, hl, hA⟩ := labB_yes hL
  have hcn := (Pr.cnt_le n (by omega)).1
  have ci' := lab_cell hg i hi
  have cj' := lab_cell hg j hj
  have bi := allB_at2 hA i hi
  have bj := allB_at2 hA j hj
  have HD : Hid (doorB xs i j = (xs.getD i 0 + xs.getD j 0 == 1)) := Lib.hid (by simp [doorB])
  have hw : w.heap.size < (w.alloc (.cells #[.int .i64 i, .int .i64 j] 70)).heap.size := by simp
  have hgw : g < (w.alloc (.cells #[.int .i64 i, .int .i64 j] 70)).heap.size := by simp; omega
  have ci1 : (w.alloc (.cells #[.int .i64 i, .int .i64 j] 70)).cell? ⟨g, 1 + i, none⟩ = some (.int .i64 (xs.getD i 0)) := (World.cell?_alloc_past _ _ _ hgl).trans ci'
  have cj1 : (w.alloc (.cells #[.int .i64 i, .int .i64 j] 70)).cell? ⟨g, 1 + j, none⟩ = some (.int .i64 (xs.getD j 0)) := (World.cell?_alloc_past _ _ _ hgl).trans cj'
  have p0 : (w.alloc (.cells #[.int .i64 i, .int .i64 j] 70)).cell? ⟨w.heap.size, 0, none⟩ = some (.int .i64 i) := by go_cell
  have p1 : (w.alloc (.cells #[.int .i64 i, .int .i64 j] 70)).cell? ⟨w.heap.size, 1, none⟩ = some (.int .i64 j) := by go_cell
  have hi45 : (i : Int) < 45 := by omega
  have hj45 : (j : Int) < 45 := by omega
  have hB := balloc (Below.refl w.heap.size w) (.cells #[.int .i64 i, .int .i64 j] 70)
  clear ci' cj' hg hL hA hl
  generalize xs.getD i 0 = x at ci1 bi HD
  generalize xs.getD j 0 = y at cj1 bj HD
  go_enter Try.func88, Try.ntmps88
  go_wp2_with fail
  generalize w.alloc (.cells #[.int .i64 i, .int .i64 j] 70) = w0 at ci1 cj1 p0 p1 hB hw hgw ⊢
  go_quiet (fail)
  go_wp2_with fail
  go_ret
  exact ⟨by rw [HD.out]; rfl, Below.trans hB (Below.mono (by exact below_drewN (Below.refl _ _) _) (Nat.le_refl w.heap.size))⟩
end Go.Proofs.Ytjbdhgomcchoaaa
