import Derived.Test.YtjbdhgomcchoaaaSides
import Derived.Test.YtjbdhgomcchoaaaPoint
namespace Go.Proofs.Ytjbdhgomcchoaaa
open Go.RowKit
def dist (X Y : List Int) (k : Nat) : Int := ((X.getD k 0 - Y.getD k 0).natAbs : Nat)
def sumD (X Y : List Int) : Nat → Int
  | 0 => 0
  | k + 1 => sumD X Y k + dist X Y k
/-- Neighbours: no number differs by more than 1, and two differ. -/
def nearB (X Y : List Int) : Bool := decide (dist X Y 0 ≤ 1 ∧ dist X Y 1 ≤ 1 ∧ dist X Y 2 ≤ 1 ∧ sumD X Y 3 = 2)
def cntD (X Y : List Int) (v : Int) : Nat → Int
  | 0 => 0
  | k + 1 => cntD X Y v k + if Y.getD k 0 - X.getD k 0 = v then 1 else 0
theorem near_cnt (a b c d e f : Int) (h : a + b + c = d + e + f) :
    nearB [a, b, c] [d, e, f] = decide (cntD [a, b, c] [d, e, f] 1 3 = 1 ∧ cntD [a, b, c] [d, e, f] (-1) 3 = 1 ∧ cntD [a, b, c] [d, e, f] 0 3 = 1) := by
  simp only [nearB, cntD, sumD, dist, List.getD_cons_zero, List.getD_cons_succ]
  rw [Bool.eq_iff_iff]
  simp only [decide_eq_true_eq]
  omega
theorem near_far (X Y : List Int) (k : Nat) (hk : k < 3) (h : 1 < dist X Y k) : nearB X Y = false := by
  rcases (show k = 0 ∨ k = 1 ∨ k = 2 by omega) with rfl | rfl | rfl <;> simp [nearB] <;> omega
set_option maxHeartbeats 400000 in
theorem l1Abs_any (d : Int) (h0 : -1000 ≤ d) (h1 : d ≤ 1000) (w : World) :
    Calls Try.prog 80 #[.int .i64 d] w fun e w' => e = .returned (.int .i64 (d.natAbs : Nat)) ∧ w' = w := by
  by_cases h : -d < d
  · go_enter Try.func80, Try.ntmps80
    go_wp2
    go_ret
    exact ⟨ret_int (by omega), rfl⟩
  · go_enter Try.func80, Try.ntmps80
    go_wp2
    go_ret
    exact ⟨ret_int (by omega), rfl⟩
theorem small_getD {X : List Int} (h : ∀ x ∈ X, -100 ≤ x ∧ x ≤ 100) (k : Nat) : -100 ≤ X.getD k 0 ∧ X.getD k 0 ≤ 100 := by
  by_cases hk : k < X.length
  · simp only [List.getD, List.getElem?_eq_getElem hk, Option.getD_some]; exact h _ (List.getElem_mem hk)
  · simp [List.getD, List.getElem?_eq_none (Nat.le_of_not_lt hk)]
theorem cell3 (w : World) (a b c : Int) (t : TypeId) (k : Nat) (hk : k < 3) : (w.alloc (.cells #[.int .i64 a, .int .i64 b, .int .i64 c] t)).cell? ⟨w.heap.size, k, none⟩ = some (.int .i64 ([a, b, c].getD k 0)) := by
  rcases (show k = 0 ∨ k = 1 ∨ k = 2 by omega) with rfl | rfl | rfl <;> go_cell
set_option maxHeartbeats 1000000 in
theorem meNear_core (n i j a b c d e f : Int) (hX : ∀ x ∈ [a, b, c], -100 ≤ x ∧ x ≤ 100) (hY : ∀ x ∈ [d, e, f], -100 ≤ x ∧ x ≤ 100)
    (hm : ∀ w, Calls Try.prog 79 #[.int .i64 n, .int .i64 i] w fun e w' => e = .returned (.slice (some ⟨w.heap.size, 0, none⟩) 3 3) ∧ w' = w.alloc (.cells #[.int .i64 a, .int .i64 b, .int .i64 c] 3))
    (hm2 : ∀ w, Calls Try.prog 79 #[.int .i64 n, .int .i64 j] w fun e' w' => e' = .returned (.slice (some ⟨w.heap.size, 0, none⟩) 3 3) ∧ w' = w.alloc (.cells #[.int .i64 d, .int .i64 e, .int .i64 f] 3)) (w : World) :
    Calls Try.prog 52 #[.int .i64 n, .int .i64 i, .int .i64 j] w fun e' w' => e' = .returned (.bool (nearB [a, b, c] [d, e, f])) ∧ Below w.heap.size w w' := by
  have HM := Lib.hid hm
  have HM2 := Lib.hid hm2
  have SX := Lib.hid (small_getD hX)
  have SY := Lib.hid (small_getD hY)
  have C1 := Lib.hid (cell3 w a b c 3)
  have C2 := Lib.hid (cell3 (w.alloc (.cells #[.int .i64 a, .int .i64 b, .int .i64 c] 3)) d e f 3)
  clear hm hm2 hX hY
  go_enter Try.func52, Try.ntmps52
  go_wp2_with fail
  refine (HM.out _).mono ?_
  rintro e1 w1 ⟨rfl, rfl⟩
  go_wp2_with fail
  refine (HM2.out _).mono ?_
  rintro e1 w1 ⟨rfl, rfl⟩
  go_wp2_with fail
  go_loopw [9, 19] (fun v9 v19 wr => ∃ k : Nat, k ≤ 3 ∧ v19 = .int .i64 k ∧ v9 = .int .i64 (sumD [a, b, c] [d, e, f] k) ∧ (∀ j, j < k → dist [a, b, c] [d, e, f] j ≤ 1) ∧ 0 ≤ sumD [a, b, c] [d, e, f] k ∧ sumD [a, b, c] [d, e, f] k ≤ k ∧
     Same ((w.alloc (.cells #[.int .i64 a, .int .i64 b, .int .i64 c] 3)).alloc (.cells #[.int .i64 d, .int .i64 e, .int .i64 f] 3)) wr) (fun _ v19 _ => 3 - (intOf v19).toNat)
  case atStart => exact ⟨0, by omega, rfl, rfl, by omega, by simp [sumD], by simp [sumD], Same.refl _⟩
  case round =>
    obtain ⟨k, hk, rfl, rfl, hd, hs0, hs1, hs⟩ := hrel
    have HD := Lib.hid hd
    clear hd
    by_cases hlt : k < 3
    · have c1 : wr.cell? ⟨w.heap.size, k, none⟩ = some (.int .i64 ([a, b, c].getD k 0)) := by
        rw [hs.cell, World.cell?_alloc_past _ _ _ (by simp)]; exact C1.out k hlt
      have c2 : wr.cell? ⟨w.heap.size + 1, k, none⟩ = some (.int .i64 ([d, e, f].getD k 0)) := by
        rw [hs.cell]; have := C2.out k hlt; simpa only [World.size_alloc] using this
      have sx := SX.out k
      have sy := SY.out k
      have hdist : dist [a, b, c] [d, e, f] k = (([a, b, c].getD k 0 - [d, e, f].getD k 0).natAbs : Nat) := rfl
      have hsum : sumD [a, b, c] [d, e, f] (k + 1) = sumD [a, b, c] [d, e, f] k + dist [a, b, c] [d, e, f] k := rfl
      have hfar := Lib.hid (near_far [a, b, c] [d, e, f] k hlt)
      generalize sumD [a, b, c] [d, e, f] k = S at *
      rw [hdist] at hfar hsum
      have HS := Lib.hid hsum
      have HDI := Lib.hid hdist
      clear hdist hsum
      generalize [a, b, c].getD k 0 = x at *
      generalize [d, e, f].getD k 0 = y at *
      have hlk : (k : Int) < 3 := by omega
      by_cases hbig : 1 < ((x - y).natAbs : Int)
      · go_wp2_with fail
        go_quiet ((go_at_call 80; exact Calls.quiet_of_same (l1Abs_any _ (by omega) (by omega) _)))
        go_wp2_with fail
        go_ret
        rw [hfar.out (by simpa using hbig)]
        exact ⟨rfl, below_same (by go_grown) (hs.drewN _)⟩
      · go_wp2_with fail
        go_quiet ((go_at_call 80; exact Calls.quiet_of_same (l1Abs_any _ (by omega) (by omega) _)))
        rename_i nq
        have hs2 := hs.drewN nq
        have c3 : (wr.drewN nq).cell? ⟨w.heap.size, k, none⟩ = some (.int .i64 x) := ((Same.refl wr).drewN nq).cell _ |>.trans c1
        have c4 : (wr.drewN nq).cell? ⟨w.heap.size + 1, k, none⟩ = some (.int .i64 y) := ((Same.refl wr).drewN nq).cell _ |>.trans c2
        clear hs c1 c2
        generalize wr.drewN nq = w2 at *
        go_wp2_with fail
        go_quiet ((go_at_call 80; exact Calls.quiet_of_same (l1Abs_any _ (by omega) (by omega) _)))
        go_wp2_with fail
        go_roundw
        case rel =>
          refine ⟨k + 1, by omega, by go_num, by rw [HS.out], ?_, ?_, ?_, hs2.drewN _⟩
          · intro j hj
            by_cases hjk : j < k
            · exact HD.out j hjk
            · have : j = k := by omega
              subst this
              rw [HDI.out]; omega
          · rw [HS.out]; omega
          · rw [HS.out]; omega
        case measure => simp [intOf]; omega
    · have hk3 : k = 3 := by omega
      subst hk3
      have h0 := HD.out 0 (by omega)
      have h1 := HD.out 1 (by omega)
      have h2 := HD.out 2 (by omega)
      have hN : nearB [a, b, c] [d, e, f] = (sumD [a, b, c] [d, e, f] 3 == 2) := by
        rw [Bool.eq_iff_iff]; simp [nearB, h0, h1, h2]
      have HN := Lib.hid hN
      generalize sumD [a, b, c] [d, e, f] 3 = S at *
      clear hN h0 h1 h2
      go_wp2_with fail
      go_ret
      rw [HN.out]
      exact ⟨rfl, below_same (by go_grown) hs⟩
theorem pt_small (n i : Nat) (h2 : n ≤ 8) (hi : i < 45) : ∀ x ∈ [(n : Int) - (Pr.R i : Nat), (Pr.R i : Int) - (Pr.C i : Nat), (Pr.C i : Nat)], -100 ≤ x ∧ x ≤ 100 := by
  have := Pr.RC_bd i hi
  intro x hx
  simp only [List.mem_cons, List.not_mem_nil, or_false] at hx
  rcases hx with rfl | rfl | rfl <;> omega
theorem meNear_any (n i j : Nat) (h1 : 1 ≤ n) (h2 : n ≤ 8) (hi : i < 45) (hj : j < 45) (w : World) :
    Calls Try.prog 52 #[.int .i64 n, .int .i64 i, .int .i64 j] w fun e' w' => e' = .returned (.bool (nearB (pt n i) (pt n j))) ∧ Below w.heap.size w w' :=
  meNear_core n i j _ _ _ _ _ _ (pt_small n i h2 hi) (pt_small n j h2 hj) (fun w => meAt_any n i h1 h2 hi w) (fun w => meAt_any n j h1 h2 hj w) w
set_option maxHeartbeats 1000000 in
theorem isBeside_core (a b c d e f : Int) (hX : ∀ x ∈ [a, b, c], -100 ≤ x ∧ x ≤ 100) (hY : ∀ x ∈ [d, e, f], -100 ≤ x ∧ x ≤ 100) (w : World) :
    Calls Try.prog 84 #[.agg #[.int .i64 a, .int .i64 b, .int .i64 c], .agg #[.int .i64 d, .int .i64 e, .int .i64 f]] w fun e' w' =>
      e' = .returned (.bool (decide (cntD [a, b, c] [d, e, f] 1 3 = 1 ∧ cntD [a, b, c] [d, e, f] (-1) 3 = 1 ∧ cntD [a, b, c] [d, e, f] 0 3 = 1))) ∧ Below w.heap.size w w' := by
  have SX := Lib.hid (small_getD hX)
  have SY := Lib.hid (small_getD hY)
  have C1 := Lib.hid (cell3 w a b c 84)
  have C2 := Lib.hid (cell3 (w.alloc (.cells #[.int .i64 a, .int .i64 b, .int .i64 c] 84)) d e f 84)
  clear hX hY
  go_enter Try.func84, Try.ntmps84
  go_wp2_with fail
  go_loopw [5, 6, 7, 9] (fun v5 v6 v7 v9 wr => ∃ (k : Nat) (p q r : Int), k ≤ 3 ∧ v9 = .int .i64 k ∧ v5 = .int .i64 p ∧ v6 = .int .i64 q ∧ v7 = .int .i64 r ∧
     Hid (p = cntD [a, b, c] [d, e, f] 1 k ∧ q = cntD [a, b, c] [d, e, f] (-1) k ∧ r = cntD [a, b, c] [d, e, f] 0 k) ∧ 0 ≤ p ∧ p ≤ k ∧ 0 ≤ q ∧ q ≤ k ∧ 0 ≤ r ∧ r ≤ k ∧
     Same ((w.alloc (.cells #[.int .i64 a, .int .i64 b, .int .i64 c] 84)).alloc (.cells #[.int .i64 d, .int .i64 e, .int .i64 f] 84)) wr) (fun _ _ _ v9 _ => 3 - (intOf v9).toNat)
  case atStart => exact ⟨0, 0, 0, 0, by omega, rfl, rfl, rfl, rfl, ⟨rfl, rfl, rfl⟩, by omega, by omega, by omega, by omega, by omega, by omega, Same.refl _⟩
  case round =>
    obtain ⟨k, p, q, r, hk, rfl, rfl, rfl, rfl, hc, p0, p1, q0, q1, r0, r1, hs⟩ := hrel
    by_cases hlt : k < 3
    · have c1 : wr.cell? ⟨w.heap.size, k, none⟩ = some (.int .i64 ([a, b, c].getD k 0)) := by
        rw [hs.cell, World.cell?_alloc_past _ _ _ (by simp)]; exact C1.out k hlt
      have c2 : wr.cell? ⟨w.heap.size + 1, k, none⟩ = some (.int .i64 ([d, e, f].getD k 0)) := by
        rw [hs.cell]; have := C2.out k hlt; simpa only [World.size_alloc] using this
      have sx := SX.out k
      have sy := SY.out k
      have e1 : cntD [a, b, c] [d, e, f] 1 (k + 1) = cntD [a, b, c] [d, e, f] 1 k + if [d, e, f].getD k 0 - [a, b, c].getD k 0 = 1 then 1 else 0 := rfl
      have e2 : cntD [a, b, c] [d, e, f] (-1) (k + 1) = cntD [a, b, c] [d, e, f] (-1) k + if [d, e, f].getD k 0 - [a, b, c].getD k 0 = -1 then 1 else 0 := rfl
      have e3 : cntD [a, b, c] [d, e, f] 0 (k + 1) = cntD [a, b, c] [d, e, f] 0 k + if [d, e, f].getD k 0 - [a, b, c].getD k 0 = 0 then 1 else 0 := rfl
      generalize [a, b, c].getD k 0 = x at *
      generalize [d, e, f].getD k 0 = y at *
      rw [← hc.out.1] at e1
      rw [← hc.out.2.1] at e2
      rw [← hc.out.2.2] at e3
      have E1 := Lib.hid e1
      have E2 := Lib.hid e2
      have E3 := Lib.hid e3
      clear e1 e2 e3
      have hlk : (k : Int) < 3 := by omega
      have hy : ∃ t, t = y - x ∧ -200 ≤ t ∧ t ≤ 200 := ⟨_, rfl, by omega, by omega⟩
      by_cases t1 : y - x = 1
      · have b1 : (y - x == 1) = true := by simpa using t1
        have T1 := Lib.hid t1
        clear t1 hy
        go_wp2_with fail
        go_quiet (fail)
        go_wp2_with fail
        go_roundw
        case rel => exact ⟨k + 1, p + 1, q, r, by omega, by go_num, rfl, rfl, rfl, ⟨by rw [E1.out, if_pos T1.out], by rw [E2.out, if_neg (by have := T1.out; omega)]; omega, by rw [E3.out, if_neg (by have := T1.out; omega)]; omega⟩, by omega, by omega, by omega, by omega, by omega, by omega, hs.drewN _⟩
        case measure => simp [intOf]; omega
      · by_cases t2 : y - x = -1
        · have b1 : (y - x == 1) = false := by simpa using t1
          have b2 : (y - x == -1) = true := by simpa using t2
          have T1 := Lib.hid t1
          have T2 := Lib.hid t2
          clear t1 t2 hy
          go_wp2_with fail
          go_quiet (fail)
          go_wp2_with fail
          go_roundw
          case rel => exact ⟨k + 1, p, q + 1, r, by omega, by go_num, rfl, rfl, rfl, ⟨by rw [E1.out, if_neg T1.out]; omega, by rw [E2.out, if_pos T2.out], by rw [E3.out, if_neg (by have := T2.out; omega)]; omega⟩, by omega, by omega, by omega, by omega, by omega, by omega, hs.drewN _⟩
          case measure => simp [intOf]; omega
        · by_cases t3 : y - x = 0
          · have b1 : (y - x == 1) = false := by simpa using t1
            have b2 : (y - x == -1) = false := by simpa using t2
            have b3 : (y - x == 0) = true := by simpa using t3
            have T1 := Lib.hid t1
            have T2 := Lib.hid t2
            have T3 := Lib.hid t3
            clear t1 t2 t3 hy
            go_wp2_with fail
            go_quiet (fail)
            go_wp2_with fail
            go_roundw
            case rel => exact ⟨k + 1, p, q, r + 1, by omega, by go_num, rfl, rfl, rfl, ⟨by rw [E1.out, if_neg T1.out]; omega, by rw [E2.out, if_neg T2.out]; omega, by rw [E3.out, if_pos T3.out]⟩, by omega, by omega, by omega, by omega, by omega, by omega, hs.drewN _⟩
            case measure => simp [intOf]; omega
          · have b1 : (y - x == 1) = false := by simpa using t1
            have b2 : (y - x == -1) = false := by simpa using t2
            have b3 : (y - x == 0) = false := by simpa using t3
            have T1 := Lib.hid t1
            have T2 := Lib.hid t2
            have T3 := Lib.hid t3
            clear t1 t2 t3 hy
            go_wp2_with fail
            go_quiet (fail)
            go_wp2_with fail
            go_roundw
            case rel => exact ⟨k + 1, p, q, r, by omega, by go_num, rfl, rfl, rfl, ⟨by rw [E1.out, if_neg T1.out]; omega, by rw [E2.out, if_neg T2.out]; omega, by rw [E3.out, if_neg T3.out]; omega⟩, by omega, by omega, by omega, by omega, by omega, by omega, hs.drewN _⟩
            case measure => simp [intOf]; omega
    · have hk3 : k = 3 := by omega
      subst hk3
      by_cases t1 : p = 1
      · by_cases t2 : q = 1
        · subst t1 t2
          go_wp2_with fail
          go_ret
          exact ⟨ret_bool (by rw [← hc.out.1, ← hc.out.2.1, ← hc.out.2.2]; rw [Bool.eq_iff_iff]; simp), below_same (by go_grown) hs⟩
        · have b2 : (q == 1) = false := by simpa using t2
          subst t1
          have T2 := Lib.hid t2
          clear t2
          go_wp2_with fail
          go_ret
          exact ⟨ret_bool (by rw [← hc.out.1, ← hc.out.2.1, ← hc.out.2.2]; simp [T2.out]), below_same (by go_grown) hs⟩
      · have b1 : (p == 1) = false := by simpa using t1
        have T1 := Lib.hid t1
        clear t1
        go_wp2_with fail
        go_ret
        exact ⟨ret_bool (by rw [← hc.out.1, ← hc.out.2.1, ← hc.out.2.2]; simp [T1.out]), below_same (by go_grown) hs⟩
theorem isBeside_any (n i j : Nat) (h2 : n ≤ 8) (hi : i < 45) (hj : j < 45) (w : World) :
    Calls Try.prog 84 #[.agg #[.int .i64 ((n : Int) - (Pr.R i : Nat)), .int .i64 ((Pr.R i : Int) - (Pr.C i : Nat)), .int .i64 (Pr.C i : Nat)], .agg #[.int .i64 ((n : Int) - (Pr.R j : Nat)), .int .i64 ((Pr.R j : Int) - (Pr.C j : Nat)), .int .i64 (Pr.C j : Nat)]] w fun e' w' =>
      e' = .returned (.bool (nearB (pt n i) (pt n j))) ∧ Below w.heap.size w w' := by
  have h := near_cnt ((n : Int) - (Pr.R i : Nat)) ((Pr.R i : Int) - (Pr.C i : Nat)) (Pr.C i : Nat) ((n : Int) - (Pr.R j : Nat)) ((Pr.R j : Int) - (Pr.C j : Nat)) (Pr.C j : Nat) (by omega)
  show Calls _ _ _ _ fun e' w' => e' = .returned (.bool (nearB [_, _, _] [_, _, _])) ∧ _
  rw [h]
  exact isBeside_core _ _ _ _ _ _ (pt_small n i h2 hi) (pt_small n j h2 hj) w
end Go.Proofs.Ytjbdhgomcchoaaa
