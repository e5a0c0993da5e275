import Derived.Test.YtjbdhgomcchoaaaLi
import Derived.Test.YtjbdhgomcchoaaaIg
namespace Go.Proofs.Ytjbdhgomcchoaaa
open Go.RowKit
theorem own_cap {w : World} {base e n cap : Nat} {a : Option Addr} {xs : List Value} (h : w.ownsRow base e 1 (.slice a n cap) n xs) : n ≤ cap := by
  rcases h.2 with ⟨hv, h0⟩ | ⟨g, cap', cur, hv, hg, hh, hc, hm, hs, ht⟩
  · omega
  · simp only [Value.slice.injEq] at hv
    omega
/-- The first m pairs of a list's point a with the points behind it. -/
def rowp (c : List Nat) (a m : Nat) : List (Int × Int) := (List.range m).map fun t => (((c.getD a 0 : Nat) : Int), ((c.getD (a + 1 + t) 0 : Nat) : Int))
def prs (c : List Nat) : Nat → List (Int × Int)
  | 0 => []
  | a + 1 => prs c a ++ rowp c a (c.length - (a + 1))
theorem rowp_succ (c : List Nat) (a m : Nat) : rowp c a (m + 1) = rowp c a m ++ [(((c.getD a 0 : Nat) : Int), ((c.getD (a + 1 + m) 0 : Nat) : Int))] := by
  simp [rowp, List.range_succ]
theorem rowp_len (c : List Nat) (a m : Nat) : (rowp c a m).length = m := by simp [rowp]
theorem prs_len (c : List Nat) : ∀ a, (prs c a).length ≤ a * c.length
  | 0 => by simp [prs]
  | a + 1 => by
    have := prs_len c a
    simp only [prs, List.length_append, rowp_len]
    rw [Nat.add_mul]; omega
/-- What the model lists of the doors among the pairs. -/
def outp (xs : List Int) (ps : List (Int × Int)) : List (List Int) := (ps.filter (drB xs)).map lst
theorem outp_yes (xs : List Int) (ps : List (Int × Int)) (i j : Int) (h : doorB xs i j = true) : outp xs (ps ++ [(i, j)]) = outp xs ps ++ [[i, j]] := by
  simp [outp, drB, h, lst]
theorem outp_no (xs : List Int) (ps : List (Int × Int)) (i j : Int) (h : doorB xs i j = false) : outp xs (ps ++ [(i, j)]) = outp xs ps := by
  simp [outp, drB, h]
theorem outp_len (xs : List Int) (ps : List (Int × Int)) : (outp xs ps).length ≤ ps.length := by
  simp only [outp, List.length_map]; exact List.length_filter_le _ _
set_option maxHeartbeats 3200000 in
theorem doOfCell_any (xs : List Int) (c : List Nat) (a a' : Option Addr) (b b' len len' cap cap' : Nat) (w : World) (hn : xs.length = len) (hc : c.length = len') (h : Rd w a b 0 xs) (h' : Rd w a' b' 0 (c.map (fun (i : Nat) => (i : Int)))) (hb0 : len = 0 ∨ b < w.heap.size) (hb0' : a' = none ∨ b' < w.heap.size) (hcap : len' ≤ cap') (hA : allB 0 2 xs = true) (hin : ∀ j, j < c.length → c.getD j 0 < xs.length) (hl : c.length ≤ 100) (hcm : cap' ≤ maxLen) :
    Calls Try.prog 69 #[.slice a len cap, .slice a' len' cap'] w fun e w' => ∃ v, e = .returned v ∧ CellsV w' w.heap.size v (outp xs (prs c c.length)) ∧ Below w.heap.size w w' := by
  subst hc
  have HD := Lib.hid (fun i j w' (hb : Below w.heap.size w w') (hi : i < xs.length) (hj : j < xs.length) => doDoor_any xs i j a b len cap w' hn (h.later hn hb0 hb) hA hi hj)
  have HR' := Lib.hid h'
  have HIN := Lib.hid hin
  have HEQ : Hid (∀ j, j < c.length → (c.map (fun (i : Nat) => (i : Int))).getD j 0 = ((c.getD j 0 : Nat) : Int)) := Lib.hid (fun j hj => by
    rw [List.getD_eq_getElem?_getD, List.getElem?_map, List.getD_eq_getElem?_getD, List.getElem?_eq_getElem hj]; rfl)
  have hcm' := hcm
  unfold maxLen at hcm'
  clear h h' hA hin hn hcm
  go_enter Try.func69, Try.ntmps69
  go_wp2_with fail
  go_loopw [5, 12] (fun v5 v12 wr => ∃ q : Nat, q ≤ c.length ∧ v12 = .int .i64 q ∧ CellsV wr w.heap.size v5 (outp xs (prs c q)) ∧ Below w.heap.size w wr) (fun _ v12 _ => c.length - (intOf v12).toNat)
  case atStart => exact ⟨0, Nat.zero_le _, rfl, cells_nil _ _, Below.refl _ _⟩
  case round =>
    obtain ⟨q, hq, rfl, hcv, hb⟩ := hrel
    by_cases hlt : q < c.length
    · obtain ⟨rfl, cq'⟩ := HR'.out.2 q (by simpa using hlt)
      have hbl : b' < w.heap.size := by rcases hb0' with h | h; cases h; exact h
      have cq' := (hb.cell (p := ⟨b', 0 + q, none⟩) hbl).trans cq'
      rw [HEQ.out q hlt, Nat.zero_add] at cq'
      have hiq := HIN.out q hlt
      have hqi : (q : Int) < (c.length : Int) := by omega
      have HPS : Hid (prs c (q + 1) = prs c q ++ rowp c q (c.length - (q + 1))) := Lib.hid rfl
      have HRS := Lib.hid (rowp_succ c q)
      have hpl := prs_len c q
      have hpl2 : q * c.length ≤ 100 * 100 := Nat.mul_le_mul (by omega) (by omega)
      have HCQ : Hid (∃ i, i = c.getD q 0) := Lib.hid ⟨_, rfl⟩
      generalize hi0 : c.getD q 0 = i at cq' hiq HRS
      clear hi0 HCQ
      by_cases hcq : cap' = q + 1
      · go_wp2_with fail
        go_loopw [5, 22] (fun v5 v22 wr => ∃ m : Nat, m ≤ c.length - (q + 1) ∧ v22 = .int .i64 m ∧ CellsV wr w.heap.size v5 (outp xs (prs c q ++ rowp c q m)) ∧ Below w.heap.size w wr) (fun _ v22 _ => c.length - (q + 1) - (intOf v22).toNat)
        case atStart => exact ⟨0, Nat.zero_le _, rfl, by simpa [rowp] using hcv, hb⟩
        case round =>
          clear hcv hb cq'
          obtain ⟨m, hm, rfl, hcv, hb⟩ := hrel
          by_cases hltm : m < c.length - (q + 1)
          · exfalso; omega
          · have hm2 : m = c.length - (q + 1) := by omega
            rw [hm2, ← HPS.out] at hcv
            clear hm2
            go_wp2_with fail
            go_roundw
            case rel => exact ⟨q + 1, by omega, by go_num, hcv, hb⟩
            case measure => simp [intOf]; omega
      · go_wp2_with fail
        go_loopw [5, 22] (fun v5 v22 wr => ∃ m : Nat, m ≤ c.length - (q + 1) ∧ v22 = .int .i64 m ∧ CellsV wr w.heap.size v5 (outp xs (prs c q ++ rowp c q m)) ∧ Below w.heap.size w wr) (fun _ v22 _ => c.length - (q + 1) - (intOf v22).toNat)
        case atStart => exact ⟨0, Nat.zero_le _, rfl, by simpa [rowp] using hcv, hb⟩
        case round =>
          clear hcv hb cq'
          obtain ⟨m, hm, rfl, hcv, hb⟩ := hrel
          by_cases hltm : m < c.length - (q + 1)
          · have hq1 : q + 1 + m < c.length := by omega
            obtain ⟨-, cm⟩ := HR'.out.2 (q + 1 + m) (by simpa using hq1)
            have cm := (hb.cell (p := ⟨b', 0 + (q + 1 + m), none⟩) hbl).trans cm
            rw [HEQ.out _ hq1, Nat.zero_add] at cm
            have him := HIN.out _ hq1
            have HR1 := Lib.hid (HRS.out m)
            have hrl := rowp_len c q m
            have hol := outp_len xs (prs c q ++ rowp c q m)
            rw [List.length_append, hrl] at hol
            have hmi : (m : Int) < ((c.length - (q + 1) : Nat) : Int) := by omega
            generalize c.getD (q + 1 + m) 0 = j at cm him HR1
            obtain ⟨wi, hwi⟩ : ∃ wi : World, wi = wr := ⟨_, rfl⟩
            subst hwi
            go_wp2_with fail
            refine (HD.out i j _ hb hiq him).mono ?_
            rintro e w2 ⟨rfl, mm, rfl⟩
            have hB2 := below_drewN hb mm
            have hc2 : CellsV (wi.drewN mm) w.heap.size u5 (outp xs (prs c q ++ rowp c q m)) := cells_now hcv (below_drewN (Below.refl _ _) mm)
            have hz2 := hB2.size
            clear hcv hb cm
            generalize wi.drewN mm = w3 at hB2 hc2 hz2 ⊢
            cases hN : doorB xs i j
            · have e := Lib.hid (outp_no xs (prs c q ++ rowp c q m) i j hN)
              rw [List.append_assoc, ← HR1.out] at e
              clear hN
              go_wp2_with fail
              go_roundw
              case rel => exact ⟨m + 1, by omega, by go_num, by rw [e.out]; exact hc2, hB2⟩
              case measure => simp [intOf]; omega
            · have e := Lib.hid (outp_yes xs (prs c q ++ rowp c q m) i j hN)
              rw [List.append_assoc, ← HR1.out] at e
              clear hN
              have hbw := balloc (Below.refl w3.heap.size w3) (.cells #[.int .i64 i, .int .i64 j] 3)
              have hu : (w3.alloc (.cells #[.int .i64 i, .int .i64 j] 3)).ownsRow w3.heap.size 3 1 (.slice (some ⟨w3.heap.size, 0, none⟩) 2 2) [(i : Int), (j : Int)].length ([(i : Int), (j : Int)].map (Value.int .i64)) :=
                own_block (Nat.le_refl _) (heap_alloc_new _ _) (by simp) rfl (by simp [maxLen])
              go_wp2_with (at_builtin; refine append_row w.heap.size _ w3 _ _ _ (outp xs (prs c q ++ rowp c q m)) _ rfl _ _ rfl rfl rfl (by simp) hc2 hbw hu rfl hz2 (by omega) ?_; intro v' w5 hc5 hb5)
              go_roundw
              case rel => exact ⟨m + 1, by omega, by go_num, by rw [e.out]; exact hc5, (balloc hB2 _).trans hb5⟩
              case measure => simp [intOf]; omega
          · have hm2 : m = c.length - (q + 1) := by omega
            rw [hm2, ← HPS.out] at hcv
            clear hm2
            go_wp2_with fail
            go_roundw
            case rel => exact ⟨q + 1, by omega, by go_num, hcv, hb⟩
            case measure => simp [intOf]; omega
    · have hq2 : q = c.length := by omega
      rw [hq2] at hcv
      clear hq2
      obtain ⟨sa, sm, sc, rfl⟩ := cells_shape hcv
      go_wp2_with fail
      go_ret
      exact ⟨_, rfl, hcv, hb⟩
end Go.Proofs.Ytjbdhgomcchoaaa
