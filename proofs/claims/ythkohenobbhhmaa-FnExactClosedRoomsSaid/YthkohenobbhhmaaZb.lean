import Derived.Test.YthkohenobbhhmaaZa
import Derived.ArgAppend
import Derived.Deep.Onto
namespace Go.Proofs.Ythkohenobbhhmaa
open Go.RowKit
set_option maxRecDepth 4000
end Go.Proofs.Ythkohenobbhhmaa

namespace Go.Proofs.Ythkohenobbhhmaa
open Go.RowKit
set_option maxRecDepth 4000
theorem TW : ∀ r : Nat, r < 9 → wrap64 ((wrap64 ((r : Int) * ((r : Int) + 1))).tdiv 2) = (Pr.T r : Nat) := by decide +kernel
theorem T_small : ∀ r : Nat, r < 9 → Pr.T r ≤ 36 := by decide
set_option maxHeartbeats 400000 in
theorem meIndex_any (n x z : Int) (b cap : Nat) (h2 : n ≤ 8) (x0 : 0 ≤ x) (x1 : x ≤ n) (z0 : 0 ≤ z) (z1 : z ≤ 8) (w : World)
    (c0 : w.cell? ⟨b, 0, none⟩ = some (.int .i64 x)) (c2 : w.cell? ⟨b, 2, none⟩ = some (.int .i64 z)) :
    Calls Try.prog 92 #[.int .i64 n, .slice (some ⟨b, 0, none⟩) 3 cap] w fun e w' => e = .returned (.int .i64 ((Pr.T (n - x).toNat : Nat) + z)) ∧ w = w' := by
  have hT := TW (n - x).toNat (by omega)
  have hS := T_small (n - x).toNat (by omega)
  rw [Int.toNat_of_nonneg (by omega)] at hT
  have HT := Lib.hid hT
  have HS := Lib.hid hS
  clear hT hS
  go_enter Try.func92, Try.ntmps92
  go_wp2
  go_ret
  refine ⟨ret_int ?_, rfl⟩
  rw [HT.out]
  have := HS.out
  exact IntWalk.wrap64_in _ ⟨by omega, by omega⟩
set_option maxHeartbeats 400000 in
theorem indexOf_any (n x y z : Int) (h2 : n ≤ 8) (x0 : 0 ≤ x) (x1 : x ≤ n) (z0 : 0 ≤ z) (z1 : z ≤ 8) (w : World) :
    Calls Try.prog 99 #[.agg #[.int .i64 n], .agg #[.int .i64 x, .int .i64 y, .int .i64 z]] w fun e w' => e = .returned (.int .i64 ((Pr.T (n - x).toNat : Nat) + z)) ∧ Below w.heap.size w w' := by
  have hT := TW (n - x).toNat (by omega)
  have hS := T_small (n - x).toNat (by omega)
  rw [Int.toNat_of_nonneg (by omega)] at hT
  have HT := Lib.hid hT
  have HS := Lib.hid hS
  clear hT hS
  go_enter Try.func99, Try.ntmps99
  go_wp2
  go_ret
  refine ⟨ret_int ?_, by go_grown⟩
  rw [HT.out]
  have := HS.out
  exact IntWalk.wrap64_in _ ⟨by omega, by omega⟩
end Go.Proofs.Ythkohenobbhhmaa

namespace Go.Proofs.Ythkohenobbhhmaa
open Go.RowKit
set_option maxRecDepth 4000
def dist (X Y : List Int) (k : Nat) : Int := ((X.getD k 0 - Y.getD k 0).natAbs : Nat)
def sumD (X Y : List Int) : Nat → Int
  | 0 => 0
  | k + 1 => sumD X Y k + dist X Y k
/-- Neighbours: no number differs by more than 1, and two differ. -/
def nearB (X Y : List Int) : Bool := decide (dist X Y 0 ≤ 1 ∧ dist X Y 1 ≤ 1 ∧ dist X Y 2 ≤ 1 ∧ sumD X Y 3 = 2)
def cntD (X Y : List Int) (v : Int) : Nat → Int
  | 0 => 0
  | k + 1 => cntD X Y v k + if Y.getD k 0 - X.getD k 0 = v then 1 else 0
theorem near_cnt (a b c d e f : Int) (h : a + b + c = d + e + f) :
    nearB [a, b, c] [d, e, f] = decide (cntD [a, b, c] [d, e, f] 1 3 = 1 ∧ cntD [a, b, c] [d, e, f] (-1) 3 = 1 ∧ cntD [a, b, c] [d, e, f] 0 3 = 1) := by
  simp only [nearB, cntD, sumD, dist, List.getD_cons_zero, List.getD_cons_succ]
  rw [Bool.eq_iff_iff]
  simp only [decide_eq_true_eq]
  omega
theorem near_far (X Y : List Int) (k : Nat) (hk : k < 3) (h : 1 < dist X Y k) : nearB X Y = false := by
  rcases (show k = 0 ∨ k = 1 ∨ k = 2 by omega) with rfl | rfl | rfl <;> simp [nearB] <;> omega
set_option maxHeartbeats 400000 in
theorem l1Abs_any (d : Int) (h0 : -1000 ≤ d) (h1 : d ≤ 1000) (w : World) :
    Calls Try.prog 90 #[.int .i64 d] w fun e w' => e = .returned (.int .i64 (d.natAbs : Nat)) ∧ w' = w := by
  by_cases h : -d < d
  · go_enter Try.func90, Try.ntmps90
    go_wp2
    go_ret
    exact ⟨ret_int (by omega), rfl⟩
  · go_enter Try.func90, Try.ntmps90
    go_wp2
    go_ret
    exact ⟨ret_int (by omega), rfl⟩
theorem small_getD {X : List Int} (h : ∀ x ∈ X, -100 ≤ x ∧ x ≤ 100) (k : Nat) : -100 ≤ X.getD k 0 ∧ X.getD k 0 ≤ 100 := by
  by_cases hk : k < X.length
  · simp only [List.getD, List.getElem?_eq_getElem hk, Option.getD_some]; exact h _ (List.getElem_mem hk)
  · simp [List.getD, List.getElem?_eq_none (Nat.le_of_not_lt hk)]
theorem cell3 (w : World) (a b c : Int) (t : TypeId) (k : Nat) (hk : k < 3) : (w.alloc (.cells #[.int .i64 a, .int .i64 b, .int .i64 c] t)).cell? ⟨w.heap.size, k, none⟩ = some (.int .i64 ([a, b, c].getD k 0)) := by
  rcases (show k = 0 ∨ k = 1 ∨ k = 2 by omega) with rfl | rfl | rfl <;> go_cell
set_option maxHeartbeats 1000000 in
theorem meNear_core (n i j a b c d e f : Int) (hX : ∀ x ∈ [a, b, c], -100 ≤ x ∧ x ≤ 100) (hY : ∀ x ∈ [d, e, f], -100 ≤ x ∧ x ≤ 100)
    (hm : ∀ w, Calls Try.prog 89 #[.int .i64 n, .int .i64 i] w fun e w' => e = .returned (.slice (some ⟨w.heap.size, 0, none⟩) 3 3) ∧ w' = w.alloc (.cells #[.int .i64 a, .int .i64 b, .int .i64 c] 3))
    (hm2 : ∀ w, Calls Try.prog 89 #[.int .i64 n, .int .i64 j] w fun e' w' => e' = .returned (.slice (some ⟨w.heap.size, 0, none⟩) 3 3) ∧ w' = w.alloc (.cells #[.int .i64 d, .int .i64 e, .int .i64 f] 3)) (w : World) :
    Calls Try.prog 69 #[.int .i64 n, .int .i64 i, .int .i64 j] w fun e' w' => e' = .returned (.bool (nearB [a, b, c] [d, e, f])) ∧ Below w.heap.size w w' := by
  have HM := Lib.hid hm
  have HM2 := Lib.hid hm2
  have SX := Lib.hid (small_getD hX)
  have SY := Lib.hid (small_getD hY)
  have C1 := Lib.hid (cell3 w a b c 3)
  have C2 := Lib.hid (cell3 (w.alloc (.cells #[.int .i64 a, .int .i64 b, .int .i64 c] 3)) d e f 3)
  clear hm hm2 hX hY
  go_enter Try.func69, Try.ntmps69
  go_wp2_with fail
  refine (HM.out _).mono ?_
  rintro e1 w1 ⟨rfl, rfl⟩
  go_wp2_with fail
  refine (HM2.out _).mono ?_
  rintro e1 w1 ⟨rfl, rfl⟩
  go_wp2_with fail
  go_loopw [9, 19] (fun v9 v19 wr => ∃ k : Nat, k ≤ 3 ∧ v19 = .int .i64 k ∧ v9 = .int .i64 (sumD [a, b, c] [d, e, f] k) ∧ (∀ j, j < k → dist [a, b, c] [d, e, f] j ≤ 1) ∧ 0 ≤ sumD [a, b, c] [d, e, f] k ∧ sumD [a, b, c] [d, e, f] k ≤ k ∧
     Same ((w.alloc (.cells #[.int .i64 a, .int .i64 b, .int .i64 c] 3)).alloc (.cells #[.int .i64 d, .int .i64 e, .int .i64 f] 3)) wr) (fun _ v19 _ => 3 - (intOf v19).toNat)
  case atStart => exact ⟨0, by omega, rfl, rfl, by omega, by simp [sumD], by simp [sumD], Same.refl _⟩
  case round =>
    obtain ⟨k, hk, rfl, rfl, hd, hs0, hs1, hs⟩ := hrel
    have HD := Lib.hid hd
    clear hd
    by_cases hlt : k < 3
    · have c1 : wr.cell? ⟨w.heap.size, k, none⟩ = some (.int .i64 ([a, b, c].getD k 0)) := by
        rw [hs.cell, World.cell?_alloc_past _ _ _ (by simp)]; exact C1.out k hlt
      have c2 : wr.cell? ⟨w.heap.size + 1, k, none⟩ = some (.int .i64 ([d, e, f].getD k 0)) := by
        rw [hs.cell]; have := C2.out k hlt; simpa only [World.size_alloc] using this
      have sx := SX.out k
      have sy := SY.out k
      have hdist : dist [a, b, c] [d, e, f] k = (([a, b, c].getD k 0 - [d, e, f].getD k 0).natAbs : Nat) := rfl
      have hsum : sumD [a, b, c] [d, e, f] (k + 1) = sumD [a, b, c] [d, e, f] k + dist [a, b, c] [d, e, f] k := rfl
      have hfar := Lib.hid (near_far [a, b, c] [d, e, f] k hlt)
      generalize sumD [a, b, c] [d, e, f] k = S at *
      rw [hdist] at hfar hsum
      have HS := Lib.hid hsum
      have HDI := Lib.hid hdist
      clear hdist hsum
      generalize [a, b, c].getD k 0 = x at *
      generalize [d, e, f].getD k 0 = y at *
      have hlk : (k : Int) < 3 := by omega
      by_cases hbig : 1 < ((x - y).natAbs : Int)
      · go_wp2_with fail
        go_quiet ((go_at_call 90; exact Calls.quiet_of_same (l1Abs_any _ (by omega) (by omega) _)))
        go_wp2_with fail
        go_ret
        rw [hfar.out (by simpa using hbig)]
        exact ⟨rfl, below_same (by go_grown) (hs.drewN _)⟩
      · go_wp2_with fail
        go_quiet ((go_at_call 90; exact Calls.quiet_of_same (l1Abs_any _ (by omega) (by omega) _)))
        rename_i nq
        have hs2 := hs.drewN nq
        have c3 : (wr.drewN nq).cell? ⟨w.heap.size, k, none⟩ = some (.int .i64 x) := ((Same.refl wr).drewN nq).cell _ |>.trans c1
        have c4 : (wr.drewN nq).cell? ⟨w.heap.size + 1, k, none⟩ = some (.int .i64 y) := ((Same.refl wr).drewN nq).cell _ |>.trans c2
        clear hs c1 c2
        generalize wr.drewN nq = w2 at *
        go_wp2_with fail
        go_quiet ((go_at_call 90; exact Calls.quiet_of_same (l1Abs_any _ (by omega) (by omega) _)))
        go_wp2_with fail
        go_roundw
        case rel =>
          refine ⟨k + 1, by omega, by go_num, by rw [HS.out], ?_, ?_, ?_, hs2.drewN _⟩
          · intro j hj
            by_cases hjk : j < k
            · exact HD.out j hjk
            · have : j = k := by omega
              subst this
              rw [HDI.out]; omega
          · rw [HS.out]; omega
          · rw [HS.out]; omega
        case measure => simp [intOf]; omega
    · have hk3 : k = 3 := by omega
      subst hk3
      have h0 := HD.out 0 (by omega)
      have h1 := HD.out 1 (by omega)
      have h2 := HD.out 2 (by omega)
      have hN : nearB [a, b, c] [d, e, f] = (sumD [a, b, c] [d, e, f] 3 == 2) := by
        rw [Bool.eq_iff_iff]; simp [nearB, h0, h1, h2]
      have HN := Lib.hid hN
      generalize sumD [a, b, c] [d, e, f] 3 = S at *
      clear hN h0 h1 h2
      go_wp2_with fail
      go_ret
      rw [HN.out]
      exact ⟨rfl, below_same (by go_grown) hs⟩
theorem pt_small (n i : Nat) (h2 : n ≤ 8) (hi : i < 45) : ∀ x ∈ [(n : Int) - (Pr.R i : Nat), (Pr.R i : Int) - (Pr.C i : Nat), (Pr.C i : Nat)], -100 ≤ x ∧ x ≤ 100 := by
  have := Pr.RC_bd i hi
  intro x hx
  simp only [List.mem_cons, List.not_mem_nil, or_false] at hx
  rcases hx with rfl | rfl | rfl <;> omega
theorem meNear_any (n i j : Nat) (h1 : 1 ≤ n) (h2 : n ≤ 8) (hi : i < 45) (hj : j < 45) (w : World) :
    Calls Try.prog 69 #[.int .i64 n, .int .i64 i, .int .i64 j] w fun e' w' => e' = .returned (.bool (nearB (pt n i) (pt n j))) ∧ Below w.heap.size w w' :=
  meNear_core n i j _ _ _ _ _ _ (pt_small n i h2 hi) (pt_small n j h2 hj) (fun w => meAt_any n i h1 h2 hi w) (fun w => meAt_any n j h1 h2 hj w) w
end Go.Proofs.Ythkohenobbhhmaa

namespace Go.Proofs.Ythkohenobbhhmaa
open Go.RowKit
set_option maxRecDepth 4000
def L3 (f : Nat → Nat → Bool) (i j m : Nat) : List (List Int) := ((List.range m).filter (fun (k : Nat) => decide (j < k) && (f i j && f i k && f j k))).map (fun (k : Nat) => [(i : Int), (j : Int), (k : Int)])
def L2 (f : Nat → Nat → Bool) (i N m : Nat) : List (List Int) := (List.range m).flatMap (fun j => if i < j then L3 f i j N else [])
def L1 (f : Nat → Nat → Bool) (N m : Nat) : List (List Int) := (List.range m).flatMap (fun i => L2 f i N N)
theorem L3_succ (f : Nat → Nat → Bool) (i j m : Nat) (h : j < m) : L3 f i j (m + 1) = L3 f i j m ++ (if f i j && f i m && f j m then [[(i : Int), (j : Int), (m : Int)]] else []) := by
  simp only [L3, List.range_succ, List.filter_append, List.map_append, List.filter_cons, List.filter_nil, decide_eq_true h, Bool.true_and]
  cases f i j && f i m && f j m <;> simp
theorem L3_start (f : Nat → Nat → Bool) (i j : Nat) : L3 f i j (j + 1) = [] := by
  simp only [L3, List.map_eq_nil_iff, List.filter_eq_nil_iff, List.mem_range]
  intro k hk
  simp only [Bool.and_eq_true, decide_eq_true_eq, not_and]
  omega
theorem L3_len (f : Nat → Nat → Bool) (i j m : Nat) : (L3 f i j m).length ≤ m := by
  simp only [L3, List.length_map]; exact Nat.le_trans (List.length_filter_le _ _) (by simp)
theorem L2_succ (f : Nat → Nat → Bool) (i N m : Nat) (h : i < m) : L2 f i N (m + 1) = L2 f i N m ++ L3 f i m N := by
  simp [L2, List.range_succ, List.flatMap_append, h]
theorem L2_start (f : Nat → Nat → Bool) (i N : Nat) : L2 f i N (i + 1) = [] := by
  simp only [L2, List.flatMap_eq_nil_iff, List.mem_range]
  intro j hj
  rw [if_neg (by omega)]
theorem L1_succ (f : Nat → Nat → Bool) (N m : Nat) : L1 f N (m + 1) = L1 f N m ++ L2 f m N N := by simp [L1, List.range_succ, List.flatMap_append]
theorem L2_len (f : Nat → Nat → Bool) (i N m : Nat) : (L2 f i N m).length ≤ m * N := by
  induction m with
  | zero => simp [L2]
  | succ m ih =>
    by_cases h : i < m
    · rw [L2_succ f i N m h, List.length_append]
      have := L3_len f i m N
      rw [Nat.succ_mul]; omega
    · have e : L2 f i N (m + 1) = L2 f i N m := by simp [L2, List.range_succ, List.flatMap_append, h]
      rw [e, Nat.succ_mul]; omega
theorem L1_len (f : Nat → Nat → Bool) (N m : Nat) : (L1 f N m).length ≤ m * (N * N) := by
  induction m with
  | zero => simp [L1]
  | succ m ih =>
    rw [L1_succ, List.length_append]
    have := L2_len f m N N
    rw [Nat.succ_mul]; omega
def nr (n i j : Nat) : Bool := nearB (pt n i) (pt n j)
set_option maxHeartbeats 1600000 in
theorem meCells_any (n : Nat) (h1 : 1 ≤ n) (h2 : n ≤ 8) (w : World) :
    Calls Try.prog 34 #[.int .i64 n] w fun e w' => ∃ v, e = .returned v ∧ CellsV w' w.heap.size v (L1 (nr n) (Pr.cnt n) (Pr.cnt n)) ∧ Below w.heap.size w w' := by
  have hcn := (Pr.cnt_le n (by omega)).1
  go_enter Try.func34, Try.ntmps34
  go_wp2_with fail
  go_loopw [3, 4] (fun v3 v4 wr => ∃ i : Nat, i ≤ Pr.cnt n ∧ v4 = .int .i64 i ∧ CellsV wr w.heap.size v3 (L1 (nr n) (Pr.cnt n) i) ∧ Below w.heap.size w wr) (fun _ v4 _ => Pr.cnt n - (intOf v4).toNat)
  case atStart => exact ⟨0, Nat.zero_le _, rfl, cells_nil _ _, Below.refl _ _⟩
  case round =>
    obtain ⟨i, hi, rfl, hc, hb⟩ := hrel
    obtain ⟨wo, rfl⟩ : ∃ wo : World, wo = wr := ⟨_, rfl⟩
    by_cases hlt : i < Pr.cnt n
    · have hi45 : i < 45 := by omega
      have hlti : (i : Int) < (Pr.cnt n : Nat) := by omega
      go_wp2_with fail
      refine (meCount_any n h2 _).mono ?_
      rintro e w' ⟨rfl, rfl⟩
      go_wp2_with fail
      go_loopw [3, 5] (fun v3 v5 wr => ∃ j : Nat, i + 1 ≤ j ∧ j ≤ Pr.cnt n ∧ v5 = .int .i64 j ∧ CellsV wr w.heap.size v3 (L1 (nr n) (Pr.cnt n) i ++ L2 (nr n) i (Pr.cnt n) j) ∧ Below w.heap.size w wr) (fun _ v5 _ => Pr.cnt n - (intOf v5).toNat)
      case atStart => exact ⟨i + 1, Nat.le_refl _, by omega, by go_num, by rw [L2_start, List.append_nil]; exact hc, hb⟩
      case round =>
        clear hc hb
        obtain ⟨j, hij, hj, rfl, hc, hb⟩ := hrel
        obtain ⟨wm, rfl⟩ : ∃ wm : World, wm = wr := ⟨_, rfl⟩
        by_cases hltj : j < Pr.cnt n
        · have hj45 : j < 45 := by omega
          have hltj' : (j : Int) < (Pr.cnt n : Nat) := by omega
          go_wp2_with fail
          refine (meCount_any n h2 _).mono ?_
          rintro e w' ⟨rfl, rfl⟩
          go_wp2_with fail
          go_loopw [3, 6] (fun v3 v6 wr => ∃ k : Nat, j + 1 ≤ k ∧ k ≤ Pr.cnt n ∧ v6 = .int .i64 k ∧ CellsV wr w.heap.size v3 (L1 (nr n) (Pr.cnt n) i ++ L2 (nr n) i (Pr.cnt n) j ++ L3 (nr n) i j k) ∧ Below w.heap.size w wr) (fun _ v6 _ => Pr.cnt n - (intOf v6).toNat)
          case atStart => exact ⟨j + 1, Nat.le_refl _, by omega, by go_num, by rw [L3_start, List.append_nil]; exact hc, hb⟩
          case round =>
            clear hc hb
            obtain ⟨k, hjk, hk, rfl, hc, hb⟩ := hrel
            by_cases hltk : k < Pr.cnt n
            · have hk45 : k < 45 := by omega
              have hltk' : (k : Int) < (Pr.cnt n : Nat) := by omega
              have HS := Lib.hid (L3_succ (nr n) i j k (by omega))
              have hbd : (L1 (nr n) (Pr.cnt n) i ++ L2 (nr n) i (Pr.cnt n) j ++ L3 (nr n) i j k).length < 1000000000 := by
                have a1 := L1_len (nr n) (Pr.cnt n) i
                have a2 := L2_len (nr n) i (Pr.cnt n) j
                have a3 := L3_len (nr n) i j k
                have b1 : i * (Pr.cnt n * Pr.cnt n) ≤ 45 * (45 * 45) := Nat.mul_le_mul (by omega) (Nat.mul_le_mul hcn hcn)
                have b2 : j * Pr.cnt n ≤ 45 * 45 := Nat.mul_le_mul (by omega) hcn
                simp only [List.length_append]; omega
              have HBD := Lib.hid hbd
              clear hbd
              go_wp2_with fail
              refine (meCount_any n h2 _).mono ?_
              rintro e w' ⟨rfl, rfl⟩
              go_wp2_with fail
              refine (meNear_any n i j h1 h2 hi45 hj45 _).mono ?_
              rintro e w1 ⟨rfl, hb1⟩
              have hc1 := cells_now hc hb1
              have hB1 := bnext hb hb1
              clear hc hb hb1
              cases hN1 : nearB (pt n i) (pt n j)
              · have e1 := Lib.hid (show L3 (nr n) i j (k + 1) = L3 (nr n) i j k by rw [HS.out]; simp [nr, hN1])
                clear hN1
                go_wp2_with fail
                go_roundw
                case rel => exact ⟨k + 1, by omega, by omega, by go_num, by rw [e1.out]; exact hc1, hB1⟩
                case measure => simp [intOf]; omega
              · have HN1 := Lib.hid hN1
                clear hN1
                go_wp2_with fail
                refine (meNear_any n i k h1 h2 hi45 hk45 _).mono ?_
                rintro e w2 ⟨rfl, hb2⟩
                have hc2 := cells_now hc1 hb2
                have hB2 := bnext hB1 hb2
                clear hc1 hB1 hb2
                cases hN2 : nearB (pt n i) (pt n k)
                · have e1 := Lib.hid (show L3 (nr n) i j (k + 1) = L3 (nr n) i j k by rw [HS.out]; simp [nr, hN2])
                  clear hN2
                  go_wp2_with fail
                  go_roundw
                  case rel => exact ⟨k + 1, by omega, by omega, by go_num, by rw [e1.out]; exact hc2, hB2⟩
                  case measure => simp [intOf]; omega
                · have HN2 := Lib.hid hN2
                  clear hN2
                  go_wp2_with fail
                  refine (meNear_any n j k h1 h2 hj45 hk45 _).mono ?_
                  rintro e w3 ⟨rfl, hb3⟩
                  have hc3 := cells_now hc2 hb3
                  have hB3 := bnext hB2 hb3
                  have hz3 := hB3.size
                  clear hc2 hB2 hb3
                  cases hN3 : nearB (pt n j) (pt n k)
                  · have e1 := Lib.hid (show L3 (nr n) i j (k + 1) = L3 (nr n) i j k by rw [HS.out]; simp [nr, hN3])
                    clear hN3
                    go_wp2_with fail
                    go_roundw
                    case rel => exact ⟨k + 1, by omega, by omega, by go_num, by rw [e1.out]; exact hc3, hB3⟩
                    case measure => simp [intOf]; omega
                  · have e1 := Lib.hid (show L3 (nr n) i j (k + 1) = L3 (nr n) i j k ++ [[(i : Int), (j : Int), (k : Int)]] by rw [HS.out]; simp [nr, hN3, HN1.out, HN2.out])
                    clear hN3
                    have hc4 := balloc (Below.refl w3.heap.size w3) (.cells #[.int .i64 i, .int .i64 j, .int .i64 k] 3)
                    have hu : (w3.alloc (.cells #[.int .i64 i, .int .i64 j, .int .i64 k] 3)).ownsRow w3.heap.size 3 1 (.slice (some ⟨w3.heap.size, 0, none⟩) 3 3) [(i : Int), (j : Int), (k : Int)].length ([(i : Int), (j : Int), (k : Int)].map (Value.int .i64)) :=
                      own_block (Nat.le_refl _) (heap_alloc_new _ _) (by simp) rfl (by simp [maxLen])
                    go_wp2_with (at_builtin; refine append_row w.heap.size _ w3 _ _ _ (L1 (nr n) (Pr.cnt n) i ++ L2 (nr n) i (Pr.cnt n) j ++ L3 (nr n) i j k) _ rfl _ _ rfl rfl rfl (by simp) hc3 hc4 hu rfl hz3 HBD.out ?_; intro v' w5 hc5 hb5)
                    go_roundw
                    case rel => exact ⟨k + 1, by omega, by omega, by go_num, by rw [e1.out, ← List.append_assoc]; exact hc5, (balloc hB3 _).trans hb5⟩
                    case measure => simp [intOf]; omega
            · have hk2 : k = Pr.cnt n := by omega
              rw [hk2] at hc
              have e2 := Lib.hid (L2_succ (nr n) i (Pr.cnt n) j (by omega))
              clear hk2
              go_wp2_with fail
              refine (meCount_any n h2 _).mono ?_
              rintro e w' ⟨rfl, rfl⟩
              go_wp2_with fail
              go_roundw
              case rel => exact ⟨j + 1, by omega, by omega, by go_num, by rw [e2.out, ← List.append_assoc]; exact hc, hb⟩
              case measure => simp [intOf]; omega
        · have hj2 : j = Pr.cnt n := by omega
          rw [hj2] at hc
          have e2 := Lib.hid (L1_succ (nr n) (Pr.cnt n) i)
          clear hj2
          go_wp2_with fail
          refine (meCount_any n h2 _).mono ?_
          rintro e w' ⟨rfl, rfl⟩
          go_wp2_with fail
          go_roundw
          case rel => exact ⟨i + 1, by omega, by go_num, by rw [e2.out]; exact hc, hb⟩
          case measure => simp [intOf]; omega
    · have hi2 : i = Pr.cnt n := by omega
      rw [hi2] at hc
      clear hi2
      go_wp2_with fail
      refine (meCount_any n h2 _).mono ?_
      rintro e w' ⟨rfl, rfl⟩
      go_wp2_with fail
      go_ret
      exact ⟨_, rfl, hc, hb⟩
end Go.Proofs.Ythkohenobbhhmaa

namespace Go.Proofs.Ythkohenobbhhmaa
open Go.RowKit
set_option maxRecDepth 4000
/-- A list of cells as the program keeps it: three numbers each. -/
def TrioV (w : World) (base : Nat) (v : Value) (cs : List (List Int)) : Prop := w.ownsRow base 106 3 v cs.length (cs.flatten.map (Value.int .i64))
theorem trioInfo : (Try.prog.info? 106).map (fun i => (i.zero, i.size, i.bytes)) = some (some (.agg #[.int .i64 0, .int .i64 0, .int .i64 0]), 3, 24) := by kernel_rfl
theorem append_trio {ops : Array Oper} {rest : List Oper} {o : Oper} {a : Act} {Q : Exit → Act → World → Prop} (base g : Nat) (w0 : World) (v : Value) (cs : List (List Int)) (x y z : Int)
    (hgd : o.guard = none) (s t : Operand) (ho : o.op = .call { callee := .builtin .append, args := #[s, t], argTypes := #[49, 49] })
    (hs : a.eval s = v) (hx : a.eval t = .slice (some ⟨g, 0, none⟩) 1 1) (hg : g = w0.heap.size)
    (hc : TrioV w0 base v cs) (hbase : base ≤ w0.heap.size) (hlen : cs.length < 1000000000)
    (h : ∀ v' w', TrioV w' base v' (cs ++ [[x, y, z]]) → Below base w0 w' → wpList Try.prog ops Q rest (a.put o.dst v') w') :
    wpList Try.prog ops Q (o :: rest) a (w0.alloc (.cells #[.int .i64 x, .int .i64 y, .int .i64 z] 106)) := by
  subst hg
  obtain ⟨i0, hi, hz0, hz1, hz2⟩ := info_parts trioInfo
  refine wpList_append_own _ hgd s t 49 ho base 106 i0 _ 3 24 Try.underlying49 hi hz0 hz1 hz2 rfl (by decide) v cs.length _ hs (World.ownsRow.alloc hc _) ⟨w0.heap.size, 0, none⟩ 1 1 [.int .i64 x, .int .i64 y, .int .i64 z] hx rfl ?_ ?_ ?_ ?_ ?_ ?_
  · intro j u hj
    have e : (Addr.add ⟨w0.heap.size, 0, none⟩ j : Addr) = ⟨w0.heap.size, j, none⟩ := by rw [Addr.add_lit, Nat.zero_add]
    rw [e, cell_of_row _ _ _ _ _ (0, 0) (heap_alloc_new w0 _)]
    simpa using hj
  · intro u hu
    simp only [List.mem_cons, List.not_mem_nil, or_false] at hu
    rcases hu with rfl | rfl | rfl <;> rfl
  · unfold maxLen; omega
  · omega
  · simp; omega
  · intro v' w1 hown' hgrow _
    refine h v' w1 (by simpa [TrioV] using hown') ?_
    exact ((Below.refl base w0).alloc hbase _).grown hgrow (by simp; omega) (fun k hk => (World.ownsRow.lt hc k hk).1)
/-- The cells of a row, as the program lists them. -/
def cr (r m : Nat) : List (List Int) := (List.range m).flatMap (fun (q : Nat) => (if q < r then [[((Pr.T r + q : Nat) : Int), ((Pr.T r + q + 1 : Nat) : Int), ((Pr.T r + q + r + 2 : Nat) : Int)]] else []) ++ [[((Pr.T r + q : Nat) : Int), ((Pr.T r + q + r + 1 : Nat) : Int), ((Pr.T r + q + r + 2 : Nat) : Int)]])
def ci (m : Nat) : List (List Int) := (List.range m).flatMap (fun r => cr r (r + 1))
theorem cr_succ (r m : Nat) : cr r (m + 1) = cr r m ++ ((if m < r then [[((Pr.T r + m : Nat) : Int), ((Pr.T r + m + 1 : Nat) : Int), ((Pr.T r + m + r + 2 : Nat) : Int)]] else []) ++ [[((Pr.T r + m : Nat) : Int), ((Pr.T r + m + r + 1 : Nat) : Int), ((Pr.T r + m + r + 2 : Nat) : Int)]]) := by
  simp only [cr, List.range_succ, List.flatMap_append, List.flatMap_cons, List.flatMap_nil, List.append_nil]
theorem ci_succ (m : Nat) : ci (m + 1) = ci m ++ cr m (m + 1) := by simp [ci, List.range_succ, List.flatMap_append]
theorem cr_len (r m : Nat) : (cr r m).length ≤ 2 * m := by
  induction m with
  | zero => simp [cr]
  | succ m ih => rw [cr_succ]; by_cases h : m < r <;> simp [h] <;> omega
theorem ci_len (m : Nat) : (ci m).length ≤ 2 * m * (m + 1) := by
  induction m with
  | zero => simp [ci]
  | succ m ih =>
    have := cr_len m (m + 1)
    have e : 2 * m * (m + 1) + 2 * (m + 1) ≤ 2 * (m + 1) * (m + 1 + 1) := by
      have h1 : 2 * m * (m + 1) + 2 * (m + 1) = (2 * m + 2) * (m + 1) := by rw [Nat.add_mul]
      rw [h1, show 2 * m + 2 = 2 * (m + 1) by omega]
      exact Nat.mul_le_mul_left _ (by omega)
    rw [ci_succ, List.length_append]; omega
theorem ci_eq : ∀ n, n < 9 → 1 ≤ n → ci n = L1 (nr n) (Pr.cnt n) (Pr.cnt n) := by decide +kernel
end Go.Proofs.Ythkohenobbhhmaa

namespace Go.Proofs.Ythkohenobbhhmaa
open Go.RowKit
set_option maxRecDepth 4000
theorem trio_now {w w' : World} {base : Nat} {v : Value} {cs : List (List Int)} (h : TrioV w base v cs) (hb : Below w.heap.size w w') : TrioV w' base v cs := own_now h hb
set_option maxHeartbeats 1600000 in
set_option maxRecDepth 4000 in
theorem cells_any (n : Nat) (h1 : 1 ≤ n) (h2 : n ≤ 8) (w : World) :
    Calls Try.prog 79 #[.agg #[.int .i64 n]] w fun e w' => ∃ v, e = .returned v ∧ TrioV w' w.heap.size v (ci n) ∧ Below w.heap.size w w' := by
  obtain ⟨i0, hi, hz0, hz1, hz2⟩ := info_parts trioInfo
  have hnn := TW
  have hmul : wrap64 ((n : Int) * (n : Int)) = ((n * n : Nat) : Int) := by
    have : n * n ≤ 8 * 8 := Nat.mul_le_mul h2 h2
    rw [IntWalk.wrap64_in _ ⟨by have : (0:Int) ≤ (n:Int) * (n:Int) := Int.mul_nonneg (by omega) (by omega); omega, by have : ((n * n : Nat) : Int) = (n:Int) * (n:Int) := Int.natCast_mul n n; omega⟩]
    exact (Int.natCast_mul n n).symm
  have hnn64 : n * n ≤ 64 := Nat.mul_le_mul h2 h2
  clear hnn
  go_enter Try.func79, Try.ntmps79
  go_wp2_with (at_make; refine wpList_make_own _ rfl _ _ 49 rfl w.heap.size 106 i0 _ 3 Try.underlying49 hi hz0 hz1 _ _ _ (n * n) rfl rfl ?hC ?hb2 ?hb3 ?hb4 ?_)
  case hC => rfl
  case hb2 => rw [hz2]; omega
  case hb3 => unfold maxLen; omega
  case hb4 => simp
  intro w1 ho1 hg1
  have hm1 : w1.cell? ⟨w.heap.size, 0, none⟩ = some (.int .i64 n) := hg1.cell (v := .int .i64 n) (by go_cell) (by simp)
  have hB1 : Below w.heap.size w w1 := (Below.alloc (Below.refl _ _) (Nat.le_refl _) _).grown hg1 (by simp) (fun k hk => by cases hk)
  have ho1' : TrioV w1 w.heap.size (.slice (some ⟨w.heap.size + 1, 0, none⟩) 0 (n * n)) (ci 0) := by simpa [TrioV, ci] using ho1
  clear ho1 hg1 hmul
  go_wp2_with fail
  go_loopw [3, 16] (fun v3 v16 wr => ∃ r : Nat, r ≤ n ∧ v16 = .int .i64 r ∧ TrioV wr w.heap.size v3 (ci r) ∧ Below w.heap.size w wr) (fun _ v16 _ => n - (intOf v16).toNat)
  case atStart => exact ⟨0, Nat.zero_le _, rfl, ho1', hB1⟩
  case round =>
    obtain ⟨r, hr, rfl, hc, hb⟩ := hrel
    obtain ⟨wo, rfl⟩ : ∃ wo : World, wo = wr := ⟨_, rfl⟩
    by_cases hlt : r < n
    · have hT := TW r (by omega)
      have hS := T_small r (by omega)
      have HCS := Lib.hid (ci_succ r)
      have hcl := ci_len r
      have hbd : (ci r).length ≤ 1000 := by
        have : 2 * r * (r + 1) ≤ 16 * 9 := Nat.mul_le_mul (by omega) (by omega)
        omega
      clear hcl
      go_wp2_with fail
      rw [hT]
      go_loopw [3, 6] (fun v3 v6 wr => ∃ m : Nat, m ≤ r + 1 ∧ v6 = .int .i64 ((Pr.T r + m : Nat) : Int) ∧ TrioV wr w.heap.size v3 (ci r ++ cr r m) ∧ Below w.heap.size w wr) (fun _ v6 _ => Pr.T r + r + 1 - (intOf v6).toNat)
      case atStart => exact ⟨0, Nat.zero_le _, rfl, by simpa [cr] using hc, hb⟩
      case round =>
        obtain ⟨m, hm, rfl, hd, hb⟩ := hrel
        obtain ⟨wi, rfl⟩ : ∃ wi : World, wi = wr := ⟨_, rfl⟩
        have hcl := cr_len r m
        have hdl : (ci r ++ cr r m).length < 1000000 := by rw [List.length_append]; omega
        clear hcl
        have HRS := Lib.hid (cr_succ r m)
        by_cases hlt2 : m < r + 1
        · by_cases hlt3 : m < r
          · go_wp2_with (at_builtin; (first | (refine append_trio w.heap.size _ _ _ (ci r ++ cr r m) _ _ _ rfl _ _ rfl rfl rfl (by simp) hd (by have := hb.size; omega) (by omega) ?_; intro v' w3 hd3 hb3) | (refine append_trio w.heap.size _ _ _ _ _ _ _ rfl _ _ rfl rfl rfl (by simp) hd3 (by have := hb.size; have := hb3.size; omega) (by rw [List.length_append]; simp only [List.length_cons, List.length_nil]; omega) ?_; intro v4 w4 hd4 hb4)))
            go_roundw
            case rel =>
              refine ⟨m + 1, by omega, by go_num, ?_, (hb.trans hb3).trans hb4⟩
              refine cast (congrArg (TrioV _ w.heap.size _) ?_) hd4
              rw [HRS.out]
              simp [hlt3]; omega
            case measure => simp [intOf]; omega
          · go_wp2_with (at_builtin; (refine append_trio w.heap.size _ _ _ (ci r ++ cr r m) _ _ _ rfl _ _ rfl rfl rfl (by simp) hd (by have := hb.size; omega) (by omega) ?_; intro v' w3 hd3 hb3))
            go_roundw
            case rel =>
              refine ⟨m + 1, by omega, by go_num, ?_, (hb.trans hb3)⟩
              refine cast (congrArg (TrioV _ w.heap.size _) ?_) hd3
              rw [HRS.out]
              simp [hlt3]; omega
            case measure => simp [intOf]; omega
        · have hm2 : m = r + 1 := by omega
          rw [hm2] at hd
          clear hm2
          go_wp2_with fail
          go_roundw
          case rel => exact ⟨r + 1, by omega, by go_num, by rw [HCS.out]; exact hd, hb⟩
          case measure => simp [intOf]; omega
    · have hr2 : r = n := by omega
      rw [hr2] at hc
      clear hr2
      go_wp2_with fail
      go_ret
      exact ⟨_, rfl, hc, hb⟩
end Go.Proofs.Ythkohenobbhhmaa

namespace Go.Proofs.Ythkohenobbhhmaa
open Go.RowKit
set_option maxRecDepth 4000
set_option maxHeartbeats 1600000 in
theorem clone_three (x y z : Int) (g : Nat) (w : World) (hg : g < w.heap.size) (hr : Rd w (some ⟨g, 0, none⟩) g 0 [x, y, z]) :
    Calls Try.prog 87 #[.slice (some ⟨g, 0, none⟩) 3 3] w fun e w' => ∃ v, e = .returned v ∧ w'.ownsRow w.heap.size 3 1 v 3 ([x, y, z].map (Value.int .i64)) ∧ Below w.heap.size w w' := by
  go_enter Try.func87, Try.ntmps87
  go_wp2_with fail
  rw [Lib.run_eql_slice_nil _ 22 _ _ _ _ _ _ Try.underlying22]
  obtain ⟨i0, hi, hz0, hz1, hz2⟩ := info_parts intInfo
  have h0 := hr.2 0 (by simp)
  have h1 := hr.2 1 (by simp)
  have h2 := hr.2 2 (by simp)
  go_wp2_with (at_builtin; (refine wpList_append_grows _ rfl _ _ 22 rfl 3 i0 _ 1 8 Try.underlying22 hi hz0 hz1 hz2 rfl (by decide) (some ⟨w.heap.size, 0, none⟩) 0 0 [] rfl (by simp) rfl (by simp) ⟨g, 0, none⟩ 3 3 [.int .i64 x, .int .i64 y, .int .i64 z] rfl rfl ?_ ?_ (by omega) (by simp [maxLen]) (by omega) ?_))
  case refine_1 =>
    intro j u hj
    try rw [Addr.add_lit, Nat.zero_add]
    try refine (World.cell?_alloc_past _ _ _ hg).trans ?_
    match j, hj with
    | 0, hj => simp at hj; subst hj; simpa using h0.2
    | 1, hj => simp at hj; subst hj; simpa using h1.2
    | 2, hj => simp at hj; subst hj; simpa using h2.2
    | j + 3, hj => simp at hj
  case refine_2 => first | exact ⟨rfl, rfl, rfl⟩ | (intro u hu; simp only [List.mem_cons, List.not_mem_nil, or_false] at hu; rcases hu with rfl | rfl | rfl <;> rfl)
  case refine_3 =>
    intro v' w' ho hgr
    have hB : Below w.heap.size w w' := (balloc (Below.refl w.heap.size w) (.cells #[] 3)).grown hgr (by simp) (fun k hk => by cases hk)
    go_wp2_with fail
    go_ret
    exact ⟨_, rfl, ho.mono (by simp), hB⟩
end Go.Proofs.Ythkohenobbhhmaa

namespace Go.Proofs.Ythkohenobbhhmaa
open Go.RowKit
set_option maxRecDepth 4000
/-- Cells, three numbers each, that can be read. -/
def TRd (w : World) (a : Option Addr) (b : Nat) (xs : List Int) : Prop := ∀ j, j < xs.length → a = some ⟨b, 0, none⟩ ∧ w.cell? ⟨b, j, none⟩ = some (.int .i64 (xs.getD j 0))
theorem trio_shape {w : World} {base : Nat} {v : Value} {cs : List (List Int)} (h : TrioV w base v cs) :
    cs.flatten.length = cs.length * 3 ∧ ∃ a cap b, v = .slice a cs.length cap ∧ TRd w a b cs.flatten := by
  obtain ⟨h1, h2⟩ := h
  have hn : cs.flatten.length = cs.length * 3 := by rw [List.length_map] at h1; exact h1
  refine ⟨hn, ?_⟩
  rcases h2 with ⟨rfl, h0⟩ | ⟨g, cap, cur, rfl, hg, hh, hc, hm, hs, ht⟩
  · have : cs = [] := List.eq_nil_of_length_eq_zero h0
    subst this
    exact ⟨none, 0, 0, rfl, fun j hj => by simp at hj⟩
  · refine ⟨_, cap, g, rfl, fun j hj => ⟨rfl, ?_⟩⟩
    rw [cell_of_row w g j cur _ (0, 0) hh]
    have e : (cur.toList.take (cs.length * 3))[j]? = (cs.flatten.map (Value.int .i64))[j]? := by rw [ht]
    rw [List.getElem?_take, if_pos (by omega)] at e
    rw [← Array.getElem?_toList, e, List.getElem?_map, List.getD_eq_getElem?_getD, List.getElem?_eq_getElem hj]
    rfl
theorem cells_shape {w : World} {base : Nat} {v : Value} {cs : List (List Int)} (h : CellsV w base v cs) : ∃ a n cap, v = .slice a n cap := by
  obtain ⟨vs, hvs, -, -⟩ := h
  rcases hvs.2 with ⟨h, -⟩ | ⟨g, cap, cur, h, -⟩
  · exact ⟨_, _, _, h⟩
  · exact ⟨_, _, _, h⟩
theorem ci_at : ∀ n, n < 9 → ∀ k, k < (ci n).length → (ci n).getD k [] = [(ci n).flatten.getD (k * 3) 0, (ci n).flatten.getD (k * 3 + 1) 0, (ci n).flatten.getD (k * 3 + 2) 0] := by decide +kernel
end Go.Proofs.Ythkohenobbhhmaa

namespace Go.Proofs.Ythkohenobbhhmaa
open Go.RowKit
set_option maxRecDepth 4000
/-- What a function does that answers a list of lists, and whether it succeeds. -/
def CGives (w : World) (cs : List (List Int)) (ok : Bool) (e : Ending) (w' : World) : Prop :=
  ∃ v, e = .returned (.tuple #[v, .bool ok]) ∧ CellsV w' w.heap.size v cs ∧ Below w.heap.size w w'
theorem cgives_none {w w' : World} (hb : Below w.heap.size w w') : CGives w [] false (.returned (.tuple #[.slice none 0 0, .bool false])) w' := ⟨_, rfl, cells_nil _ _, hb⟩
theorem Rd.drewN {w : World} {a : Option Addr} {b off : Nat} {xs : List Int} (h : Rd w a b off xs) (m : Nat) : Rd (w.drewN m) a b off xs := h.same ((Same.refl w).drewN m)
set_option maxHeartbeats 400000 in
theorem eqIntS_drew (xs : List Int) (a a' : Option Addr) (b off b' off' n n' cap cap' : Nat) (w : World) (hn : xs.length = n) (hn' : xs.length = n') (h : Rd w a b off xs) (h' : Rd w a' b' off' xs) :
    Calls Try.prog 14 #[.slice a n cap, .slice a' n' cap'] w fun e w' => e = .returned (.bool true) ∧ ∃ m, w' = w.drewN m := by
  subst hn hn'
  obtain ⟨hm, hc⟩ := h
  obtain ⟨_, hc'⟩ := h'
  unfold maxLen at hm
  have hne : ((xs.length : Int) != (xs.length : Int)) = false := by simp
  have HC := Lib.hid hc
  have HC' := Lib.hid hc'
  clear hc hc'
  go_enter Try.func14, Try.ntmps14
  go_wp2
  go_loopw [5] (fun v5 wr => ∃ k : Nat, k ≤ xs.length ∧ v5 = .int .i64 k ∧ ∃ m, wr = w.drewN m) (fun v5 _ => xs.length - (intOf v5).toNat)
  case atStart => exact ⟨0, Nat.zero_le _, rfl, 0, rfl⟩
  case round =>
    obtain ⟨k, hk, rfl, m, rfl⟩ := hrel
    by_cases hlt : k < xs.length
    · obtain ⟨ha, c⟩ := HC.out k hlt
      obtain ⟨ha', c'⟩ := HC'.out k hlt
      subst ha ha'
      have c1 : (w.drewN m).cell? ⟨b, off + k, none⟩ = some (.int .i64 (xs.getD k 0)) := c
      have c2 : (w.drewN m).cell? ⟨b', off' + k, none⟩ = some (.int .i64 (xs.getD k 0)) := c'
      have hi : (k : Int) < (xs.length : Int) := by omega
      have hne2 : (xs.getD k 0 != xs.getD k 0) = false := by simp
      obtain ⟨w0, hw0⟩ : ∃ w0, w0 = w.drewN m := ⟨_, rfl⟩
      rw [← hw0] at c1 c2 ⊢
      have HW := Lib.hid hw0
      clear c c' hw0
      go_wp2
      go_quiet (fail)
      go_wp2
      go_roundw
      case rel => exact ⟨k + 1, by omega, by go_num, _, by rw [HW.out, World.drewN_drewN]⟩
      case measure => simp [intOf]; omega
    · go_wp2
      go_ret
      exact ⟨rfl, m, rfl⟩
end Go.Proofs.Ythkohenobbhhmaa

namespace Go.Proofs.Ythkohenobbhhmaa
open Go.RowKit
set_option maxRecDepth 4000
end Go.Proofs.Ythkohenobbhhmaa

namespace Go.Proofs.Ythkohenobbhhmaa
open Go.RowKit
set_option maxRecDepth 4000
/-- Whether a number is in a list. -/
def hasB (xs : List Int) (v : Int) : Bool := decide (v ∈ xs)
theorem hasB_step (xs : List Int) (v : Int) (k : Nat) (hk : k < xs.length) (h : hasB (xs.take k) v = false) :
    (((xs.getD k 0 == v) = true → hasB xs v = true) ∧ ((xs.getD k 0 == v) = false → hasB (xs.take (k + 1)) v = false)) := by
  have e : xs.take (k + 1) = xs.take k ++ [xs.getD k 0] := by
    rw [List.take_add_one, List.getD_eq_getElem?_getD, List.getElem?_eq_getElem hk]; rfl
  refine ⟨fun hx => ?_, fun hx => ?_⟩
  · simp only [beq_iff_eq] at hx
    simp only [hasB, decide_eq_true_eq]
    rw [← hx, List.getD_eq_getElem?_getD, List.getElem?_eq_getElem hk]
    exact List.getElem_mem hk
  · simp only [hasB, decide_eq_false_iff_not, e, List.mem_append, List.mem_singleton] at h ⊢
    simp only [beq_eq_false_iff_ne] at hx
    exact fun hh => hh.elim h (fun hh => hx hh.symm)
set_option maxHeartbeats 400000 in
theorem l1Has_any (xs : List Int) (v : Int) (a : Option Addr) (b off n cap : Nat) (w : World) (hn : xs.length = n) (h : Rd w a b off xs) :
    Calls Try.prog 97 #[.slice a n cap, .int .i64 v] w fun e w' => e = .returned (.bool (hasB xs v)) ∧ w = w' := by
  subst hn
  obtain ⟨hm, hc⟩ := h
  unfold maxLen at hm
  have HC := Lib.hid hc
  clear hc
  go_enter Try.func97, Try.ntmps97
  go_wp2
  go_loop [9] (fun v9 => ∃ k : Nat, k ≤ xs.length ∧ v9 = .int .i64 k ∧ Hid (hasB (xs.take k) v = false)) (fun v9 => xs.length - (intOf v9).toNat)
  case atStart => exact ⟨0, Nat.zero_le _, rfl, Lib.hid (by simp [hasB])⟩
  case round =>
    obtain ⟨k, hk, rfl, hf⟩ := hrel
    by_cases hlt : k < xs.length
    · obtain ⟨ha, c⟩ := HC.out k hlt
      subst ha
      have HS := Lib.hid (hasB_step xs v k hlt hf.out)
      have hi : (k : Int) < (xs.length : Int) := by omega
      generalize xs.getD k 0 = x at c HS
      cases hx : (x == v)
      · have H2 := Lib.hid (HS.out.2 hx)
        go_wp2
        go_round
        case rel => exact ⟨k + 1, by omega, by go_num, H2⟩
        case measure => simp [intOf]; omega
      · have H2 := Lib.hid (HS.out.1 hx)
        go_wp2
        go_ret
        exact ⟨by rw [H2.out]; rfl, rfl⟩
    · have H2 : Hid (hasB xs v = false) := by
        have := hf.out
        rwa [show k = xs.length by omega, List.take_length] at this
      go_wp2
      go_ret
      exact ⟨by rw [H2.out]; rfl, rfl⟩
set_option maxHeartbeats 400000 in
theorem index_any (xs : List Int) (v : Int) (a : Option Addr) (b off n cap : Nat) (w : World) (hn : xs.length = n) (h : Rd w a b off xs) :
    Calls Try.prog 101 #[.slice a n cap, .int .i64 v] w fun e w' => (∃ r : Int, e = .returned (.int .i64 r) ∧ decide (0 ≤ r) = hasB xs v) ∧ w = w' := by
  subst hn
  obtain ⟨hm, hc⟩ := h
  unfold maxLen at hm
  have HC := Lib.hid hc
  clear hc
  go_enter Try.func101, Try.ntmps101
  go_wp2
  go_loop [8] (fun v8 => ∃ k : Nat, k ≤ xs.length ∧ v8 = .int .i64 k ∧ Hid (hasB (xs.take k) v = false)) (fun v8 => xs.length - (intOf v8).toNat)
  case atStart => exact ⟨0, Nat.zero_le _, rfl, Lib.hid (by simp [hasB])⟩
  case round =>
    obtain ⟨k, hk, rfl, hf⟩ := hrel
    by_cases hlt : k < xs.length
    · obtain ⟨ha, c⟩ := HC.out k hlt
      subst ha
      have HS := Lib.hid (hasB_step xs v k hlt hf.out)
      have hi : (k : Int) < (xs.length : Int) := by omega
      generalize xs.getD k 0 = x at c HS
      cases hx : (v == x)
      · have H2 := Lib.hid (HS.out.2 ((BEq.comm (a := x) (b := v)).trans hx))
        go_wp2
        go_round
        case rel => exact ⟨k + 1, by omega, by go_num, H2⟩
        case measure => simp [intOf]; omega
      · have H2 := Lib.hid (HS.out.1 ((BEq.comm (a := x) (b := v)).trans hx))
        go_wp2
        go_ret
        exact ⟨⟨_, rfl, by rw [H2.out]; simp⟩, rfl⟩
    · have H2 : Hid (hasB xs v = false) := by
        have := hf.out
        rwa [show k = xs.length by omega, List.take_length] at this
      go_wp2
      go_ret
      exact ⟨⟨_, rfl, by rw [H2.out]; rfl⟩, rfl⟩
set_option maxHeartbeats 400000 in
theorem contains_any (xs : List Int) (v : Int) (a : Option Addr) (b off n cap : Nat) (w : World) (hn : xs.length = n) (h : Rd w a b off xs) :
    Calls Try.prog 100 #[.slice a n cap, .int .i64 v] w fun e w' => e = .returned (.bool (hasB xs v)) ∧ w = w' := by
  go_enter Try.func100, Try.ntmps100
  go_wp2_with fail
  refine (index_any xs v a b off n cap _ hn h).mono ?_
  rintro e w1 ⟨⟨r, rfl, hr⟩, rfl⟩
  have HR := Lib.hid hr
  clear hr
  go_wp2_with fail
  go_ret
  exact ⟨by rw [← HR.out]; rfl, rfl⟩
set_option maxHeartbeats 400000 in
theorem trioHas_any (x y z v : Int) (w : World) :
    Calls Try.prog 96 #[.agg #[.int .i64 x, .int .i64 y, .int .i64 z], .int .i64 v] w fun e w' => e = .returned (.bool (hasB [x, y, z] v)) ∧ Below w.heap.size w w' := by
  go_enter Try.func96, Try.ntmps96
  go_wp2_with fail
  refine (contains_any [x, y, z] v _ w.heap.size 0 _ _ _ rfl ⟨by simp [maxLen], fun j hj => ⟨rfl, ?_⟩⟩).mono ?_
  · rw [cell_of_row _ _ _ _ _ (0, 0) (heap_alloc_new w _)]
    match j, hj with
    | 0, _ => rfl
    | 1, _ => rfl
    | 2, _ => rfl
    | j + 3, hj => exact absurd hj (by simp)
  · rintro e w1 ⟨rfl, rfl⟩
    go_wp2_with fail
    go_ret
    exact ⟨rfl, by go_grown⟩
end Go.Proofs.Ythkohenobbhhmaa

namespace Go.Proofs.Ythkohenobbhhmaa
open Go.RowKit
set_option maxRecDepth 4000
/-- Whether the cell k has both points. -/
def withB (cs : List (List Int)) (i j : Int) (k : Nat) : Bool := hasB (cs.getD k []) i && hasB (cs.getD k []) j
set_option maxHeartbeats 800000 in
theorem meWith_any (cs : List (List Int)) (i j : Int) (a : Option Addr) (base n cap : Nat) (w : World) (hc : CellsV w base (.slice a n cap) cs) (hl : cs.length ≤ 1000) :
    Calls Try.prog 88 #[.slice a n cap, .int .i64 i, .int .i64 j] w fun e w' => ∃ v, e = .returned v ∧ w'.ownsRow w.heap.size 3 1 v (flt (withB cs i j) cs.length).length ((flt (withB cs i j) cs.length).map (Value.int .i64)) ∧ Below w.heap.size w w' := by
  obtain ⟨rfl, -, hrows⟩ := cells_row hc
  have HR := Lib.hid hrows
  clear hrows hc
  go_enter Try.func88, Try.ntmps88
  go_wp2_with fail
  go_loopw [7, 12] (fun v7 v12 wr => ∃ k : Nat, k ≤ cs.length ∧ v12 = .int .i64 k ∧ wr.ownsRow w.heap.size 3 1 v7 (flt (withB cs i j) k).length ((flt (withB cs i j) k).map (Value.int .i64)) ∧ Below w.heap.size w wr) (fun _ v12 _ => cs.length - (intOf v12).toNat)
  case atStart => exact ⟨0, Nat.zero_le _, rfl, World.ownsRow_nil _ _ _ _, Below.refl _ _⟩
  case round =>
    obtain ⟨k, hk, rfl, ho, hb⟩ := hrel
    have hfl := flt_len (withB cs i j) k
    by_cases hlt : k < cs.length
    · obtain ⟨g, ra, rc, rb, rfl, -, hgl, c1, hx, hr, -, -⟩ := HR.out k hlt
      have c1 := (hb.cell (p := ⟨g, k, none⟩) hgl).trans c1
      have hr1 := hr.below hb (hx.imp_right fun h => h.2.1)
      have HW : Hid (withB cs i j k = (hasB (cs.getD k []) i && hasB (cs.getD k []) j)) := rfl
      have hz := hb.size
      have hi : (k : Int) < (cs.length : Int) := by omega
      have HY := Lib.hid (flt_yes (withB cs i j) k)
      have HN := Lib.hid (flt_no (withB cs i j) k)
      generalize cs.getD k [] = c at c1 hr1 HW
      clear hr hx
      go_wp2_with fail
      refine (l1Has_any c i ra rb 0 _ rc _ rfl hr1).mono ?_
      rintro e w' ⟨rfl, rfl⟩
      cases h1 : hasB c i
      · have e := Lib.hid (HN.out (by rw [HW.out, h1]; rfl))
        clear h1
        go_wp2_with fail
        go_roundw
        case rel => exact ⟨k + 1, by omega, by go_num, by rw [e.out]; exact ho, hb⟩
        case measure => simp [intOf]; omega
      · have H1 := Lib.hid h1
        clear h1
        go_wp2_with fail
        refine (l1Has_any c j ra rb 0 _ rc _ rfl hr1).mono ?_
        rintro e w' ⟨rfl, rfl⟩
        cases h2 : hasB c j
        · have e := Lib.hid (HN.out (by rw [HW.out, H1.out, h2]; rfl))
          clear h2
          go_wp2_with fail
          go_roundw
          case rel => exact ⟨k + 1, by omega, by go_num, by rw [e.out]; exact ho, hb⟩
          case measure => simp [intOf]; omega
        · have e := Lib.hid (HY.out (by rw [HW.out, H1.out, h2]; rfl))
          clear h2
          go_wp2_with (at_builtin; refine append_int w.heap.size _ _ (flt (withB cs i j) k) _ rfl _ _ rfl rfl rfl ho hz (by omega) ?_; intro v' w3 ho3 hb3)
          go_roundw
          case rel => exact ⟨k + 1, by omega, by go_num, by rw [e.out]; exact ho3, hb.trans hb3⟩
          case measure => simp [intOf]; omega
    · have hk2 : k = cs.length := by omega
      subst hk2
      go_wp2_with fail
      obtain ⟨-, a', c', b', rfl, -, -⟩ := own_shape ho
      go_ret
      exact ⟨_, rfl, ho, hb⟩
theorem ci_bd (n : Nat) (h2 : n ≤ 8) : (ci n).length ≤ 1000 := by
  have hcl := ci_len n
  have : 2 * n * (n + 1) ≤ 16 * 9 := Nat.mul_le_mul (by omega) (by omega)
  omega
end Go.Proofs.Ythkohenobbhhmaa
