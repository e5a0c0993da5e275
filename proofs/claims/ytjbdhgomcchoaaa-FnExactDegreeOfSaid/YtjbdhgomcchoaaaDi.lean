import Derived.Test.YtjbdhgomcchoaaaDs
namespace Go.Proofs.Ytjbdhgomcchoaaa
open Go.RowKit
/-- What the cells of rooms hold. -/
theorem rooms_row {w : World} {base n : Nat} {xs : List Int} {r : Array Value} (hL : labB n xs = true) (h : RoomsV w base n xs r) : r.size = 48 ∧ r.all (·.oneCell') = true ∧ r[0]? = some (.int .i64 n) ∧ (∀ k, k < xs.length → r[1 + k]? = some (.int .i64 (xs.getD k 0))) ∧
    ∃ g ca cc, r[46]? = some (.slice ca (ci n).length cc) ∧ r[47]? = some (doorF g) ∧ TrioV w base (.slice ca (ci n).length cc) (ci n) ∧ w.heap[g]? = some (.cells (labL n xs).toArray 63 (0, 0)) ∧ base ≤ g ∧ g < w.heap.size := by
  obtain ⟨g, ca, cc, rfl, h2, h3, h4, h5⟩ := h
  obtain ⟨h1', h2', hl, -⟩ := labB_yes hL
  have hcn := (Pr.cnt_le n (by omega)).1
  have hsz := labL_size n xs (by omega)
  refine ⟨rmA_size _ _ _ hsz, rmA_one _ _ _ (labL_one n xs) rfl rfl, ?_, fun k hk => ?_, g, ca, cc, ?_, ?_, h2, h3, h4, h5⟩
  · rw [rmA, Array.getElem?_append_left (by omega)]; simp [labL]
  · rw [rmA, Array.getElem?_append_left (by omega)]
    simp only [labL, List.getElem?_toArray]
    rw [show 1 + k = k + 1 by omega, List.getElem?_cons_succ, List.getElem?_append_left (by simpa using hk), List.getElem?_map, List.getElem?_eq_getElem hk]
    simp [List.getD, hk]
  · rw [rmA, Array.getElem?_append_right (by omega), hsz]; rfl
  · rw [rmA, Array.getElem?_append_right (by omega), hsz]; rfl
set_option maxHeartbeats 800000 in
theorem implIsDoor (n : Int) (xs : List Int) (i j : Int) (a : Option Addr) (b len cap : Nat) (w : World) (hn : xs.length = len) (hsm : len ≤ 1048576) (h : Rd w a b 0 xs) (hb0 : len = 0 ∨ b < w.heap.size) :
    Calls Try.prog 29 #[.int .i64 n, .slice a len cap, .int .i64 i, .int .i64 j] w fun e w' => e = .returned (.tuple #[.bool (valIsDoor n xs i j), .bool (okIsDoor n xs i j)]) ∧ Below w.heap.size w w' := by
  cases hL : labB n xs
  · have H1 : Hid (valIsDoor n xs i j = false ∧ okIsDoor n xs i j = false) := Lib.hid (by simp [valIsDoor, okIsDoor, pairB, hL])
    have HR := Lib.hid (roomsOf_no n xs a b len cap w hn hsm h hb0 hL)
    rw [H1.out.1, H1.out.2]
    clear hL hn h hb0
    go_enter Try.func29, Try.ntmps29
    go_wp2_with fail
    refine HR.out.mono ?_
    rintro e w1 ⟨rfl, hb1⟩
    go_wp2_with (first | (with_reducible refine alloc_rm rfl rfl ?_) | ((with_reducible refine store_rm rfl _ _ rfl w1.heap.size zeroR zeroR ?_ ?_ ?_ zeroR_size zeroR_size zeroR_one w1.heap.size (Nat.le_refl _) ?_); exact rfl; exact rfl; exact heap_alloc_new _ _; intro w3 hg3 hb3; have hB3 := bnext hb1 ((balloc (Below.refl w1.heap.size w1) (.cells zeroR 66)).trans hb3)))
    go_ret2
    exact ⟨rfl, hB3⟩
  · obtain ⟨n, rfl⟩ := labB_nat hL
    obtain ⟨h1, h2, hl, hA⟩ := labB_yes hL
    have hcn := (Pr.cnt_le n (by omega)).1
    have HR := Lib.hid (roomsOf_yes n xs a b len cap w hn hsm h hb0 hL)
    cases hp : pairB n xs i j
    · have H1 : Hid (valIsDoor n xs i j = false ∧ okIsDoor n xs i j = false) := Lib.hid (by simp [valIsDoor, okIsDoor, hp])
      have HAN : Hid (∀ w', Calls Try.prog 54 #[.agg #[.int .i64 n], .int .i64 i, .int .i64 j] w' fun e w'' => e = .returned (.bool false) ∧ Below w'.heap.size w' w'') := Lib.hid (fun w' => by
        by_cases hq : (0 ≤ i ∧ i < (Pr.cnt n : Nat)) ∧ (0 ≤ j ∧ j < (Pr.cnt n : Nat))
        · obtain ⟨⟨h3, h4⟩, h5, h6⟩ := hq
          obtain ⟨i, rfl⟩ := Int.eq_ofNat_of_zero_le h3
          obtain ⟨j, rfl⟩ := Int.eq_ofNat_of_zero_le h5
          have e := areNeighbours_yes n i j h1 h2 (by omega) (by omega) w'
          have hN : nearB (pt n i) (pt n j) = false := by
            simpa [pairB, hL, ptB, show i < Pr.cnt n by omega, show j < Pr.cnt n by omega] using hp
          rwa [hN] at e
        · exact areNeighbours_no n i j h1 h2 hq w')
      rw [H1.out.1, H1.out.2]
      have HL := Lib.hid hL
      clear hL hp hn h hb0 hl hA
      go_enter Try.func29, Try.ntmps29
      go_wp2_with fail
      refine HR.out.mono ?_
      rintro e w1 ⟨r, rfl, hrv, hb1⟩
      obtain ⟨hsz, hone, r0, -, -⟩ := rooms_row HL.out hrv
      go_wp2_with (first | (with_reducible refine alloc_rm rfl rfl ?_) | ((with_reducible refine store_rm rfl _ _ rfl w1.heap.size r zeroR ?_ ?_ ?_ zeroR_size hsz hone w1.heap.size (Nat.le_refl _) ?_); exact rfl; exact rfl; exact heap_alloc_new _ _; intro w3 hg3 hb3; have hB3 := bnext hb1 ((balloc (Below.refl w1.heap.size w1) (.cells zeroR 66)).trans hb3); have q0 : w3.cell? ⟨w1.heap.size, 0, none⟩ = some (.int .i64 n) := (cell_of_row _ _ _ _ _ (0, 0) hg3).trans r0))
      refine (HAN.out _).mono ?_
      rintro e w4 ⟨rfl, hb4⟩
      go_wp2_with fail
      go_ret2
      exact ⟨rfl, bnext hB3 hb4⟩
    · have H1 : Hid (valIsDoor n xs i j = doorB xs i j ∧ okIsDoor n xs i j = true) := Lib.hid (by simp [valIsDoor, okIsDoor, hp])
      rw [H1.out.1, H1.out.2]
      obtain ⟨n', i, j, e1, rfl, rfl, -, hi, hj, hN⟩ := pairB_yes hp
      have : n = n' := by omega
      subst this
      have HAN := Lib.hid (fun w' => areNeighbours_yes n i j h1 h2 hi hj w')
      rw [hN] at HAN
      have HL := Lib.hid hL
      have hil : i < xs.length := by omega
      have hjl : j < xs.length := by omega
      clear hL hp hn h hb0 hl hA hN e1
      go_enter Try.func29, Try.ntmps29
      go_wp2_with fail
      refine HR.out.mono ?_
      rintro e w1 ⟨r, rfl, hrv, hb1⟩
      obtain ⟨hsz, hone, r0, -, g, ca, cc, -, r47, -, hlg, -, hgl⟩ := rooms_row HL.out hrv
      go_wp2_with (first | (with_reducible refine alloc_rm rfl rfl ?_) | ((with_reducible refine store_rm rfl _ _ rfl w1.heap.size r zeroR ?_ ?_ ?_ zeroR_size hsz hone w1.heap.size (Nat.le_refl _) ?_); exact rfl; exact rfl; exact heap_alloc_new _ _; intro w3 hg3 hb3; have hB13 := ((balloc (Below.refl w1.heap.size w1) (.cells zeroR 66)).trans hb3); have hB3 := bnext hb1 hB13; have q0 : w3.cell? ⟨w1.heap.size, 0, none⟩ = some (.int .i64 n) := (cell_of_row _ _ _ _ _ (0, 0) hg3).trans r0))
      refine (HAN.out _).mono ?_
      rintro e w4 ⟨rfl, hb4⟩
      have hz3 : w1.heap.size < w3.heap.size := by have := hb3.size; simp at this; omega
      have q47 : w4.cell? ⟨w1.heap.size, 47, none⟩ = some (doorF g) := ((hb4.cell (p := ⟨w1.heap.size, 47, none⟩) hz3).trans (cell_of_row _ _ _ _ _ (0, 0) hg3)).trans r47
      have hl4 := (bnext hB13 hb4).block g hgl |>.trans hlg
      have hz4 := (bnext hB13 hb4).size
      have hB4 := bnext hB3 hb4
      clear q0 r0 r47 hg3 hb3 hb4 hB13 hB3
      unfold doorF at q47
      go_wp2_with fail
      refine (isDoor_any n xs i j g HL.out hil hjl _ hl4 (by omega)).mono ?_
      rintro e w5 ⟨rfl, hb5⟩
      go_wp2_with fail
      go_ret2
      exact ⟨rfl, bnext hB4 hb5⟩
end Go.Proofs.Ytjbdhgomcchoaaa
