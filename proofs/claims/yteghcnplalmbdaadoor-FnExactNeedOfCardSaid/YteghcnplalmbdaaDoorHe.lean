import Derived.Test.YteghcnplalmbdaaDoorHd
import Derived.Test.YteghcnplalmbdaaDoorLy
import Derived.Test.YteghcnplalmbdaaDoorZc
namespace Go.Proofs.YteghcnplalmbdaaDoor
open Go.RowKit
set_option maxRecDepth 4000
theorem blkGrid : Blk 35 2 := ⟨.inl ⟨_, Tryd.underlying35⟩, by kernel_rfl⟩
theorem blkHex : Blk 38 32 := ⟨.inl ⟨_, Tryd.underlying38⟩, by kernel_rfl⟩
set_option maxHeartbeats 1600000 in
theorem hexBoardOf_no (n m : Int) (xs : List Int) (a : Option Addr) (b len cap : Nat) (w : World) (hn : xs.length = len) (hsm : len ≤ 1048576) (h : Rd w a b 0 xs) (hb0 : len = 0 ∨ b < w.heap.size) (hB : boardB n m xs = false) :
    Calls Tryd.prog 17 #[.int .i64 n, .int .i64 m, .slice a len cap] w fun e w' => e = .returned (.tuple #[.agg zeroH, .bool false]) ∧ Below w.heap.size w w' := by
  have hB0 := balloc (Below.refl w.heap.size w) (.cells zeroH 38)
  have hz0 := heap_alloc_new w (.cells zeroH 38)
  have hs0 : (w.alloc (.cells zeroH 38)).heap.size = w.heap.size + 1 := by simp
  cases hs : sidesB n m
  · have HG := Lib.hid (gridOf_no n m hs (w.alloc (.cells zeroH 38)))
    clear hs h hb0 hB
    go_enter Tryd.func17, Tryd.ntmps17
    go_wp2_with (with_reducible refine alloc_hb rfl rfl ?_)
    generalize w.alloc (.cells zeroH 38) = w0 at hB0 hz0 hs0 HG ⊢
    refine HG.out.mono ?_
    rintro e w1 ⟨rfl, hb1⟩
    have hz1 := (hb1.block w.heap.size (by omega)).trans hz0
    have hle := hb1.size
    have hza := (Below.heap_alloc w1 (.cells #[.int .i64 0, .int .i64 0] 35) w.heap.size (by omega)).trans hz1
    have hBa := balloc (bnext hB0 hb1) (.cells #[.int .i64 0, .int .i64 0] 35)
    clear hz0 hz1 hb1
    go_wp2_with (first
      | (with_reducible refine build0_hb rfl rfl ?_)
      | ((with_reducible refine store_hb rfl _ _ rfl w.heap.size zeroH zeroH ?_ ?_ hza zeroH_size zeroH_size zeroH_one w.heap.size (Nat.le_refl _) ?_); exact rfl; exact rfl; intro w3 hg3 hb3))
    exact bodyPost_ret (results_hb rfl _ _ w.heap.size _ _ rfl rfl hg3 zeroH_size) rfl ⟨rfl, hBa.trans hb3⟩
  · obtain ⟨n, m, s, rfl, rfl, hnm, h30, h1, h2, hp⟩ := sidesB_yes hs
    have HG := Lib.hid (gridOf_yes n m s h1 h2 hnm h30 (w.alloc (.cells zeroH 38)))
    have hob := hbl_of (xs := xs) hs hp
    have hno : ¬ (len = s ∧ allB 0 2 xs = true) := fun hh => by
      have := hob.2 ⟨hn.trans hh.1, hh.2⟩
      rw [hB] at this
      cases this
    have HNO := Lib.hid hno
    have HRD := Lib.hid (fun w' (hb : Below w.heap.size w w') => h.later hn hb0 hb)
    have HRB := Lib.hid (fun w' (hb : Below w.heap.size w w') => lt_later hb0 hb)
    have HN := Lib.hid hn
    have HNM := Lib.hid hnm
    clear h hb0 hn hnm hp hs hob hB hno
    go_enter Tryd.func17, Tryd.ntmps17
    go_wp2_with (with_reducible refine alloc_hb rfl rfl ?_)
    generalize w.alloc (.cells zeroH 38) = w0 at hB0 hz0 hs0 HG ⊢
    refine HG.out.mono ?_
    rintro e w1 ⟨rfl, hb1⟩
    have hz1 := (hb1.block w.heap.size (by omega)).trans hz0
    have hle := hb1.size
    have hza := (Below.heap_alloc w1 (.cells #[.int .i64 n, .int .i64 m] 35) w.heap.size (by omega)).trans hz1
    have hBa := balloc (bnext hB0 hb1) (.cells #[.int .i64 n, .int .i64 m] 35)
    clear hz0 hz1 hb1
    go_wp2_with fail
    refine (withOwners_no n m xs a b 0 len cap s HNM.out h30 _ HN.out (HRD.out _ hBa) (HRB.out _ hBa) HNO.out hsm).mono ?_
    rintro e w2 ⟨rfl, hb2⟩
    have hz2 := (hb2.block w.heap.size (by simp; omega)).trans hza
    have hB2 := bnext hBa hb2
    clear hza hBa hb2
    go_wp2_with ((with_reducible refine store_hb rfl _ _ rfl w.heap.size zeroH zeroH ?_ ?_ hz2 zeroH_size zeroH_size zeroH_one w.heap.size (Nat.le_refl _) ?_); exact rfl; exact rfl; intro w3 hg3 hb3)
    exact bodyPost_ret (results_hb rfl _ _ w.heap.size _ _ rfl rfl hg3 zeroH_size) rfl ⟨rfl, hB2.trans hb3⟩
set_option maxHeartbeats 1600000 in
theorem hexBoardOf_yes (n m s : Nat) (xs : List Int) (a : Option Addr) (b len cap : Nat) (w : World) (hn : xs.length = len) (h : Rd w a b 0 xs) (hb0 : len = 0 ∨ b < w.heap.size) (h1 : 1 ≤ n) (h2 : 1 ≤ m) (hnm : n * m = s) (h30 : s ≤ 30) (hl : len = s) (hA : allB 0 2 xs = true) :
    Calls Tryd.prog 17 #[.int .i64 n, .int .i64 m, .slice a len cap] w fun e w' => e = .returned (.tuple #[.agg (hbL n m xs).toArray, .bool true]) ∧ Below w.heap.size w w' := by
  have hB0 := balloc (Below.refl w.heap.size w) (.cells zeroH 38)
  have hz0 := heap_alloc_new w (.cells zeroH 38)
  have hs0 : (w.alloc (.cells zeroH 38)).heap.size = w.heap.size + 1 := by simp
  have HG := Lib.hid (gridOf_yes n m s h1 h2 hnm h30 (w.alloc (.cells zeroH 38)))
  have HRD := Lib.hid (fun w' (hb : Below w.heap.size w w') => h.later hn hb0 hb)
  have HRB := Lib.hid (fun w' (hb : Below w.heap.size w w') => lt_later hb0 hb)
  have HN := Lib.hid hn
  have HNM := Lib.hid hnm
  have HA := Lib.hid hA
  have HLS := Lib.hid hl
  have hsz := hbL_size n m xs (by omega)
  have hone := hbL_one n m xs
  clear h hb0 hn hnm hA hl
  go_enter Tryd.func17, Tryd.ntmps17
  go_wp2_with (with_reducible refine alloc_hb rfl rfl ?_)
  generalize w.alloc (.cells zeroH 38) = w0 at hB0 hz0 hs0 HG ⊢
  refine HG.out.mono ?_
  rintro e w1 ⟨rfl, hb1⟩
  have hz1 := (hb1.block w.heap.size (by omega)).trans hz0
  have hle := hb1.size
  have hza := (Below.heap_alloc w1 (.cells #[.int .i64 n, .int .i64 m] 35) w.heap.size (by omega)).trans hz1
  have hBa := balloc (bnext hB0 hb1) (.cells #[.int .i64 n, .int .i64 m] 35)
  clear hz0 hz1 hb1
  go_wp2_with fail
  refine (withOwners_yes n m xs a b 0 len cap s HNM.out h30 _ HN.out (HRD.out _ hBa) (HRB.out _ hBa) HLS.out HA.out).mono ?_
  rintro e w2 ⟨rfl, hb2⟩
  have hz2 := (hb2.block w.heap.size (by simp; omega)).trans hza
  have hB2 := bnext hBa hb2
  clear hza hBa hb2
  go_wp2_with ((with_reducible refine store_hb rfl _ _ rfl w.heap.size (hbL n m xs).toArray zeroH ?_ ?_ hz2 zeroH_size hsz hone w.heap.size (Nat.le_refl _) ?_); exact rfl; exact rfl; intro w3 hg3 hb3)
  exact bodyPost_ret (results_hb rfl _ _ w.heap.size _ _ rfl rfl hg3 hsz) rfl ⟨rfl, hB2.trans hb3⟩
/-- The cells of a board. -/
theorem hb_at (n m : Nat) (xs : List Int) (k : Nat) (hk : k < xs.length) : (hbL n m xs).toArray[2 + k]? = some (.int .i64 (xs.getD k 0)) := by
  rw [List.getElem?_toArray, hbL, show 2 + k = k + 1 + 1 by omega, List.getElem?_cons_succ, List.getElem?_cons_succ, List.getElem?_append_left (by simpa using hk)]
  simp [List.getD, hk]
end Go.Proofs.YteghcnplalmbdaaDoor
