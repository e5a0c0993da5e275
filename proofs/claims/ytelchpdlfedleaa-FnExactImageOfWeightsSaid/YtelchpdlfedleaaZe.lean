import Derived.Test.YtelchpdlfedleaaZa
import Derived.Test.YtelchpdlfedleaaZb
import Derived.Test.YtelchpdlfedleaaZd
namespace Go.Proofs.Ytelchpdlfedleaa
open Go.RowKit
set_option maxRecDepth 4000
def L3 (f : Nat → Nat → Bool) (i j m : Nat) : List (List Int) := ((List.range m).filter (fun (k : Nat) => decide (j < k) && (f i j && f i k && f j k))).map (fun (k : Nat) => [(i : Int), (j : Int), (k : Int)])
def L2 (f : Nat → Nat → Bool) (i N m : Nat) : List (List Int) := (List.range m).flatMap (fun j => if i < j then L3 f i j N else [])
def L1 (f : Nat → Nat → Bool) (N m : Nat) : List (List Int) := (List.range m).flatMap (fun i => L2 f i N N)
theorem L3_succ (f : Nat → Nat → Bool) (i j m : Nat) (h : j < m) : L3 f i j (m + 1) = L3 f i j m ++ (if f i j && f i m && f j m then [[(i : Int), (j : Int), (m : Int)]] else []) := by
  simp only [L3, List.range_succ, List.filter_append, List.map_append, List.filter_cons, List.filter_nil, decide_eq_true h, Bool.true_and]
  cases f i j && f i m && f j m <;> simp
theorem L3_start (f : Nat → Nat → Bool) (i j : Nat) : L3 f i j (j + 1) = [] := by
  simp only [L3, List.map_eq_nil_iff, List.filter_eq_nil_iff, List.mem_range]
  intro k hk
  simp only [Bool.and_eq_true, decide_eq_true_eq, not_and]
  omega
theorem L3_len (f : Nat → Nat → Bool) (i j m : Nat) : (L3 f i j m).length ≤ m := by
  simp only [L3, List.length_map]; exact Nat.le_trans (List.length_filter_le _ _) (by simp)
theorem L2_succ (f : Nat → Nat → Bool) (i N m : Nat) (h : i < m) : L2 f i N (m + 1) = L2 f i N m ++ L3 f i m N := by
  simp [L2, List.range_succ, List.flatMap_append, h]
theorem L2_start (f : Nat → Nat → Bool) (i N : Nat) : L2 f i N (i + 1) = [] := by
  simp only [L2, List.flatMap_eq_nil_iff, List.mem_range]
  intro j hj
  rw [if_neg (by omega)]
theorem L1_succ (f : Nat → Nat → Bool) (N m : Nat) : L1 f N (m + 1) = L1 f N m ++ L2 f m N N := by simp [L1, List.range_succ, List.flatMap_append]
theorem L2_len (f : Nat → Nat → Bool) (i N m : Nat) : (L2 f i N m).length ≤ m * N := by
  induction m with
  | zero => simp [L2]
  | succ m ih =>
    by_cases h : i < m
    · rw [L2_succ f i N m h, List.length_append]
      have := L3_len f i m N
      rw [Nat.succ_mul]; omega
    · have e : L2 f i N (m + 1) = L2 f i N m := by simp [L2, List.range_succ, List.flatMap_append, h]
      rw [e, Nat.succ_mul]; omega
theorem L1_len (f : Nat → Nat → Bool) (N m : Nat) : (L1 f N m).length ≤ m * (N * N) := by
  induction m with
  | zero => simp [L1]
  | succ m ih =>
    rw [L1_succ, List.length_append]
    have := L2_len f m N N
    rw [Nat.succ_mul]; omega
def nr (n i j : Nat) : Bool := nearB (pt n i) (pt n j)
set_option maxHeartbeats 1600000 in
theorem meCells_any (n : Nat) (h1 : 1 ≤ n) (h2 : n ≤ 8) (w : World) :
    Calls Try.prog 57 #[.int .i64 n] w fun e w' => ∃ v, e = .returned v ∧ CellsV w' w.heap.size v (L1 (nr n) (Pr.cnt n) (Pr.cnt n)) ∧ Below w.heap.size w w' := by
  have hcn := (Pr.cnt_le n (by omega)).1
  go_enter Try.func57, Try.ntmps57
  go_wp2_with fail
  go_loopw [3, 4] (fun v3 v4 wr => ∃ i : Nat, i ≤ Pr.cnt n ∧ v4 = .int .i64 i ∧ CellsV wr w.heap.size v3 (L1 (nr n) (Pr.cnt n) i) ∧ Below w.heap.size w wr) (fun _ v4 _ => Pr.cnt n - (intOf v4).toNat)
  case atStart => exact ⟨0, Nat.zero_le _, rfl, cells_nil _ _, Below.refl _ _⟩
  case round =>
    obtain ⟨i, hi, rfl, hc, hb⟩ := hrel
    obtain ⟨wo, rfl⟩ : ∃ wo : World, wo = wr := ⟨_, rfl⟩
    by_cases hlt : i < Pr.cnt n
    · have hi45 : i < 45 := by omega
      have hlti : (i : Int) < (Pr.cnt n : Nat) := by omega
      go_wp2_with fail
      refine (meCount_any n h2 _).mono ?_
      rintro e w' ⟨rfl, rfl⟩
      go_wp2_with fail
      go_loopw [3, 5] (fun v3 v5 wr => ∃ j : Nat, i + 1 ≤ j ∧ j ≤ Pr.cnt n ∧ v5 = .int .i64 j ∧ CellsV wr w.heap.size v3 (L1 (nr n) (Pr.cnt n) i ++ L2 (nr n) i (Pr.cnt n) j) ∧ Below w.heap.size w wr) (fun _ v5 _ => Pr.cnt n - (intOf v5).toNat)
      case atStart => exact ⟨i + 1, Nat.le_refl _, by omega, by go_num, by rw [L2_start, List.append_nil]; exact hc, hb⟩
      case round =>
        clear hc hb
        obtain ⟨j, hij, hj, rfl, hc, hb⟩ := hrel
        obtain ⟨wm, rfl⟩ : ∃ wm : World, wm = wr := ⟨_, rfl⟩
        by_cases hltj : j < Pr.cnt n
        · have hj45 : j < 45 := by omega
          have hltj' : (j : Int) < (Pr.cnt n : Nat) := by omega
          go_wp2_with fail
          refine (meCount_any n h2 _).mono ?_
          rintro e w' ⟨rfl, rfl⟩
          go_wp2_with fail
          go_loopw [3, 6] (fun v3 v6 wr => ∃ k : Nat, j + 1 ≤ k ∧ k ≤ Pr.cnt n ∧ v6 = .int .i64 k ∧ CellsV wr w.heap.size v3 (L1 (nr n) (Pr.cnt n) i ++ L2 (nr n) i (Pr.cnt n) j ++ L3 (nr n) i j k) ∧ Below w.heap.size w wr) (fun _ v6 _ => Pr.cnt n - (intOf v6).toNat)
          case atStart => exact ⟨j + 1, Nat.le_refl _, by omega, by go_num, by rw [L3_start, List.append_nil]; exact hc, hb⟩
          case round =>
            clear hc hb
            obtain ⟨k, hjk, hk, rfl, hc, hb⟩ := hrel
            by_cases hltk : k < Pr.cnt n
            · have hk45 : k < 45 := by omega
              have hltk' : (k : Int) < (Pr.cnt n : Nat) := by omega
              have HS := Lib.hid (L3_succ (nr n) i j k (by omega))
              have hbd : (L1 (nr n) (Pr.cnt n) i ++ L2 (nr n) i (Pr.cnt n) j ++ L3 (nr n) i j k).length < 1000000000 := by
                have a1 := L1_len (nr n) (Pr.cnt n) i
                have a2 := L2_len (nr n) i (Pr.cnt n) j
                have a3 := L3_len (nr n) i j k
                have b1 : i * (Pr.cnt n * Pr.cnt n) ≤ 45 * (45 * 45) := Nat.mul_le_mul (by omega) (Nat.mul_le_mul hcn hcn)
                have b2 : j * Pr.cnt n ≤ 45 * 45 := Nat.mul_le_mul (by omega) hcn
                simp only [List.length_append]; omega
              have HBD := Lib.hid hbd
              clear hbd
              go_wp2_with fail
              refine (meCount_any n h2 _).mono ?_
              rintro e w' ⟨rfl, rfl⟩
              go_wp2_with fail
              refine (meNear_any n i j h1 h2 hi45 hj45 _).mono ?_
              rintro e w1 ⟨rfl, hb1⟩
              have hc1 := cells_now hc hb1
              have hB1 := bnext hb hb1
              clear hc hb hb1
              cases hN1 : nearB (pt n i) (pt n j)
              · have e1 := Lib.hid (show L3 (nr n) i j (k + 1) = L3 (nr n) i j k by rw [HS.out]; simp [nr, hN1])
                clear hN1
                go_wp2_with fail
                go_roundw
                case rel => exact ⟨k + 1, by omega, by omega, by go_num, by rw [e1.out]; exact hc1, hB1⟩
                case measure => simp [intOf]; omega
              · have HN1 := Lib.hid hN1
                clear hN1
                go_wp2_with fail
                refine (meNear_any n i k h1 h2 hi45 hk45 _).mono ?_
                rintro e w2 ⟨rfl, hb2⟩
                have hc2 := cells_now hc1 hb2
                have hB2 := bnext hB1 hb2
                clear hc1 hB1 hb2
                cases hN2 : nearB (pt n i) (pt n k)
                · have e1 := Lib.hid (show L3 (nr n) i j (k + 1) = L3 (nr n) i j k by rw [HS.out]; simp [nr, hN2])
                  clear hN2
                  go_wp2_with fail
                  go_roundw
                  case rel => exact ⟨k + 1, by omega, by omega, by go_num, by rw [e1.out]; exact hc2, hB2⟩
                  case measure => simp [intOf]; omega
                · have HN2 := Lib.hid hN2
                  clear hN2
                  go_wp2_with fail
                  refine (meNear_any n j k h1 h2 hj45 hk45 _).mono ?_
                  rintro e w3 ⟨rfl, hb3⟩
                  have hc3 := cells_now hc2 hb3
                  have hB3 := bnext hB2 hb3
                  have hz3 := hB3.size
                  clear hc2 hB2 hb3
                  cases hN3 : nearB (pt n j) (pt n k)
                  · have e1 := Lib.hid (show L3 (nr n) i j (k + 1) = L3 (nr n) i j k by rw [HS.out]; simp [nr, hN3])
                    clear hN3
                    go_wp2_with fail
                    go_roundw
                    case rel => exact ⟨k + 1, by omega, by omega, by go_num, by rw [e1.out]; exact hc3, hB3⟩
                    case measure => simp [intOf]; omega
                  · have e1 := Lib.hid (show L3 (nr n) i j (k + 1) = L3 (nr n) i j k ++ [[(i : Int), (j : Int), (k : Int)]] by rw [HS.out]; simp [nr, hN3, HN1.out, HN2.out])
                    clear hN3
                    have hc4 := balloc (Below.refl w3.heap.size w3) (.cells #[.int .i64 i, .int .i64 j, .int .i64 k] 3)
                    have hu : (w3.alloc (.cells #[.int .i64 i, .int .i64 j, .int .i64 k] 3)).ownsRow w3.heap.size 3 1 (.slice (some ⟨w3.heap.size, 0, none⟩) 3 3) [(i : Int), (j : Int), (k : Int)].length ([(i : Int), (j : Int), (k : Int)].map (Value.int .i64)) :=
                      own_block (Nat.le_refl _) (heap_alloc_new _ _) (by simp) rfl (by simp [maxLen])
                    go_wp2_with (at_builtin; refine append_row w.heap.size _ w3 _ _ _ (L1 (nr n) (Pr.cnt n) i ++ L2 (nr n) i (Pr.cnt n) j ++ L3 (nr n) i j k) _ rfl _ _ rfl rfl rfl (by simp) hc3 hc4 hu rfl hz3 HBD.out ?_; intro v' w5 hc5 hb5)
                    go_roundw
                    case rel => exact ⟨k + 1, by omega, by omega, by go_num, by rw [e1.out, ← List.append_assoc]; exact hc5, (balloc hB3 _).trans hb5⟩
                    case measure => simp [intOf]; omega
            · have hk2 : k = Pr.cnt n := by omega
              rw [hk2] at hc
              have e2 := Lib.hid (L2_succ (nr n) i (Pr.cnt n) j (by omega))
              clear hk2
              go_wp2_with fail
              refine (meCount_any n h2 _).mono ?_
              rintro e w' ⟨rfl, rfl⟩
              go_wp2_with fail
              go_roundw
              case rel => exact ⟨j + 1, by omega, by omega, by go_num, by rw [e2.out, ← List.append_assoc]; exact hc, hb⟩
              case measure => simp [intOf]; omega
        · have hj2 : j = Pr.cnt n := by omega
          rw [hj2] at hc
          have e2 := Lib.hid (L1_succ (nr n) (Pr.cnt n) i)
          clear hj2
          go_wp2_with fail
          refine (meCount_any n h2 _).mono ?_
          rintro e w' ⟨rfl, rfl⟩
          go_wp2_with fail
          go_roundw
          case rel => exact ⟨i + 1, by omega, by go_num, by rw [e2.out]; exact hc, hb⟩
          case measure => simp [intOf]; omega
    · have hi2 : i = Pr.cnt n := by omega
      rw [hi2] at hc
      clear hi2
      go_wp2_with fail
      refine (meCount_any n h2 _).mono ?_
      rintro e w' ⟨rfl, rfl⟩
      go_wp2_with fail
      go_ret
      exact ⟨_, rfl, hc, hb⟩
end Go.Proofs.Ytelchpdlfedleaa

namespace Go.Proofs.Ytelchpdlfedleaa
open Go.RowKit
set_option maxRecDepth 4000
/-- The cells of a row, as the program lists them. -/
def cr (r m : Nat) : List (List Int) := (List.range m).flatMap (fun (q : Nat) => (if q < r then [[((Pr.T r + q : Nat) : Int), ((Pr.T r + q + 1 : Nat) : Int), ((Pr.T r + q + r + 2 : Nat) : Int)]] else []) ++ [[((Pr.T r + q : Nat) : Int), ((Pr.T r + q + r + 1 : Nat) : Int), ((Pr.T r + q + r + 2 : Nat) : Int)]])
def ci (m : Nat) : List (List Int) := (List.range m).flatMap (fun r => cr r (r + 1))
theorem cr_succ (r m : Nat) : cr r (m + 1) = cr r m ++ ((if m < r then [[((Pr.T r + m : Nat) : Int), ((Pr.T r + m + 1 : Nat) : Int), ((Pr.T r + m + r + 2 : Nat) : Int)]] else []) ++ [[((Pr.T r + m : Nat) : Int), ((Pr.T r + m + r + 1 : Nat) : Int), ((Pr.T r + m + r + 2 : Nat) : Int)]]) := by
  simp only [cr, List.range_succ, List.flatMap_append, List.flatMap_cons, List.flatMap_nil, List.append_nil]
theorem ci_succ (m : Nat) : ci (m + 1) = ci m ++ cr m (m + 1) := by simp [ci, List.range_succ, List.flatMap_append]
theorem cr_len (r m : Nat) : (cr r m).length ≤ 2 * m := by
  induction m with
  | zero => simp [cr]
  | succ m ih => rw [cr_succ]; by_cases h : m < r <;> simp [h] <;> omega
theorem ci_len (m : Nat) : (ci m).length ≤ 2 * m * (m + 1) := by
  induction m with
  | zero => simp [ci]
  | succ m ih =>
    have := cr_len m (m + 1)
    have e : 2 * m * (m + 1) + 2 * (m + 1) ≤ 2 * (m + 1) * (m + 1 + 1) := by
      have h1 : 2 * m * (m + 1) + 2 * (m + 1) = (2 * m + 2) * (m + 1) := by rw [Nat.add_mul]
      rw [h1, show 2 * m + 2 = 2 * (m + 1) by omega]
      exact Nat.mul_le_mul_left _ (by omega)
    rw [ci_succ, List.length_append]; omega
theorem ci_eq : ∀ n, n < 9 → 1 ≤ n → ci n = L1 (nr n) (Pr.cnt n) (Pr.cnt n) := by decide +kernel
end Go.Proofs.Ytelchpdlfedleaa

namespace Go.Proofs.Ytelchpdlfedleaa
open Go.RowKit
set_option maxHeartbeats 1600000 in
set_option maxRecDepth 4000 in
theorem cells_any (n : Nat) (h1 : 1 ≤ n) (h2 : n ≤ 8) (w : World) :
    Calls Try.prog 110 #[.agg #[.int .i64 n]] w fun e w' => ∃ v, e = .returned v ∧ TrioV w' w.heap.size v (ci n) ∧ Below w.heap.size w w' := by
  obtain ⟨i0, hi, hz0, hz1, hz2⟩ := info_parts trioInfo
  have hnn := TW
  have hmul : wrap64 ((n : Int) * (n : Int)) = ((n * n : Nat) : Int) := by
    have : n * n ≤ 8 * 8 := Nat.mul_le_mul h2 h2
    rw [IntWalk.wrap64_in _ ⟨by have : (0:Int) ≤ (n:Int) * (n:Int) := Int.mul_nonneg (by omega) (by omega); omega, by have : ((n * n : Nat) : Int) = (n:Int) * (n:Int) := Int.natCast_mul n n; omega⟩]
    exact (Int.natCast_mul n n).symm
  have hnn64 : n * n ≤ 64 := Nat.mul_le_mul h2 h2
  clear hnn
  go_enter Try.func110, Try.ntmps110
  go_wp2_with (at_make; refine wpList_make_own _ rfl _ _ 111 rfl w.heap.size 61 i0 _ 3 Try.underlying111 hi hz0 hz1 _ _ _ (n * n) rfl rfl ?hC ?hb2 ?hb3 ?hb4 ?_)
  case hC => rfl
  case hb2 => rw [hz2]; omega
  case hb3 => unfold maxLen; omega
  case hb4 => simp
  intro w1 ho1 hg1
  have hm1 : w1.cell? ⟨w.heap.size, 0, none⟩ = some (.int .i64 n) := hg1.cell (v := .int .i64 n) (by go_cell) (by simp)
  have hB1 : Below w.heap.size w w1 := (Below.alloc (Below.refl _ _) (Nat.le_refl _) _).grown hg1 (by simp) (fun k hk => by cases hk)
  have ho1' : TrioV w1 w.heap.size (.slice (some ⟨w.heap.size + 1, 0, none⟩) 0 (n * n)) (ci 0) := by simpa [TrioV, ci] using ho1
  clear ho1 hg1 hmul
  go_wp2_with fail
  go_loopw [3, 16] (fun v3 v16 wr => ∃ r : Nat, r ≤ n ∧ v16 = .int .i64 r ∧ TrioV wr w.heap.size v3 (ci r) ∧ Below w.heap.size w wr) (fun _ v16 _ => n - (intOf v16).toNat)
  case atStart => exact ⟨0, Nat.zero_le _, rfl, ho1', hB1⟩
  case round =>
    obtain ⟨r, hr, rfl, hc, hb⟩ := hrel
    obtain ⟨wo, rfl⟩ : ∃ wo : World, wo = wr := ⟨_, rfl⟩
    by_cases hlt : r < n
    · have hT := TW r (by omega)
      have hS := T_small r (by omega)
      have HCS := Lib.hid (ci_succ r)
      have hcl := ci_len r
      have hbd : (ci r).length ≤ 1000 := by
        have : 2 * r * (r + 1) ≤ 16 * 9 := Nat.mul_le_mul (by omega) (by omega)
        omega
      clear hcl
      go_wp2_with fail
      rw [hT]
      go_loopw [3, 6] (fun v3 v6 wr => ∃ m : Nat, m ≤ r + 1 ∧ v6 = .int .i64 ((Pr.T r + m : Nat) : Int) ∧ TrioV wr w.heap.size v3 (ci r ++ cr r m) ∧ Below w.heap.size w wr) (fun _ v6 _ => Pr.T r + r + 1 - (intOf v6).toNat)
      case atStart => exact ⟨0, Nat.zero_le _, rfl, by simpa [cr] using hc, hb⟩
      case round =>
        obtain ⟨m, hm, rfl, hd, hb⟩ := hrel
        obtain ⟨wi, rfl⟩ : ∃ wi : World, wi = wr := ⟨_, rfl⟩
        have hcl := cr_len r m
        have hdl : (ci r ++ cr r m).length < 1000000 := by rw [List.length_append]; omega
        clear hcl
        have HRS := Lib.hid (cr_succ r m)
        by_cases hlt2 : m < r + 1
        · by_cases hlt3 : m < r
          · go_wp2_with (at_builtin; (first | (refine append_trio w.heap.size _ _ _ (ci r ++ cr r m) _ _ _ rfl _ _ rfl rfl rfl (by simp) hd (by have := hb.size; omega) (by omega) ?_; intro v' w3 hd3 hb3) | (refine append_trio w.heap.size _ _ _ _ _ _ _ rfl _ _ rfl rfl rfl (by simp) hd3 (by have := hb.size; have := hb3.size; omega) (by rw [List.length_append]; simp only [List.length_cons, List.length_nil]; omega) ?_; intro v4 w4 hd4 hb4)))
            go_roundw
            case rel =>
              refine ⟨m + 1, by omega, by go_num, ?_, (hb.trans hb3).trans hb4⟩
              refine cast (congrArg (TrioV _ w.heap.size _) ?_) hd4
              rw [HRS.out]
              simp [hlt3]; omega
            case measure => simp [intOf]; omega
          · go_wp2_with (at_builtin; (refine append_trio w.heap.size _ _ _ (ci r ++ cr r m) _ _ _ rfl _ _ rfl rfl rfl (by simp) hd (by have := hb.size; omega) (by omega) ?_; intro v' w3 hd3 hb3))
            go_roundw
            case rel =>
              refine ⟨m + 1, by omega, by go_num, ?_, (hb.trans hb3)⟩
              refine cast (congrArg (TrioV _ w.heap.size _) ?_) hd3
              rw [HRS.out]
              simp [hlt3]; omega
            case measure => simp [intOf]; omega
        · have hm2 : m = r + 1 := by omega
          rw [hm2] at hd
          clear hm2
          go_wp2_with fail
          go_roundw
          case rel => exact ⟨r + 1, by omega, by go_num, by rw [HCS.out]; exact hd, hb⟩
          case measure => simp [intOf]; omega
    · have hr2 : r = n := by omega
      rw [hr2] at hc
      clear hr2
      go_wp2_with fail
      go_ret
      exact ⟨_, rfl, hc, hb⟩
end Go.Proofs.Ytelchpdlfedleaa

namespace Go.Proofs.Ytelchpdlfedleaa
open Go.RowKit
set_option maxRecDepth 4000
end Go.Proofs.Ytelchpdlfedleaa

namespace Go.Proofs.Ytelchpdlfedleaa
open Go.RowKit
set_option maxRecDepth 4000
theorem ci_at : ∀ n, n < 9 → ∀ k, k < (ci n).length → (ci n).getD k [] = [(ci n).flatten.getD (k * 3) 0, (ci n).flatten.getD (k * 3 + 1) 0, (ci n).flatten.getD (k * 3 + 2) 0] := by decide +kernel
end Go.Proofs.Ytelchpdlfedleaa

namespace Go.Proofs.Ytelchpdlfedleaa
open Go.RowKit
set_option maxRecDepth 4000
theorem ite_guard {c : Prop} [Decidable c] {a b : Prop} (h : if c then a else b) : if c then a else b := h
theorem lt_later {w w' : World} {b len : Nat} (hb0 : len = 0 ∨ b < w.heap.size) (hb : Below w.heap.size w w') : len = 0 ∨ b < w'.heap.size := hb0.imp_right fun h => Nat.lt_of_lt_of_le h hb.size
/-- The door between two points: their labels have the sum 1. -/
def doorB (xs : List Int) (i j : Int) : Bool := xs.getD i.toNat 0 + xs.getD j.toNat 0 == 1
theorem lab_cell {w : World} {g n : Nat} {xs : List Int} (hg : w.heap[g]? = some (.cells (labL n xs).toArray 110 (0, 0))) (k : Nat) (hk : k < xs.length) : w.cell? ⟨g, 1 + k, none⟩ = some (.int .i64 (xs.getD k 0)) := by
  rw [cell_of_row _ _ _ _ _ (0, 0) hg]
  simp only [labL, List.getElem?_toArray]
  rw [show 1 + k = k + 1 by omega, List.getElem?_cons_succ, List.getElem?_append_left (by simpa using hk), List.getElem?_map, List.getElem?_eq_getElem hk]
  simp [List.getD, hk]
theorem allB_at2 {xs : List Int} (h : allB 0 2 xs = true) (k : Nat) (hk : k < xs.length) : 0 ≤ xs.getD k 0 ∧ xs.getD k 0 ≤ 2 := allB_at h k hk
end Go.Proofs.Ytelchpdlfedleaa

namespace Go.Proofs.Ytelchpdlfedleaa
open Go.RowKit
set_option maxRecDepth 4000
end Go.Proofs.Ytelchpdlfedleaa
