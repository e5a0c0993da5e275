import Derived.Test.YtngadmjpjpmeoaaNear
import Derived.Deep.RegionHeld3
namespace Go.Proofs.Ytngadmjpjpmeoaa
open Go.RowKit
/-- The numbers below k of which f says yes. -/
def filt (f : Nat → Bool) (k : Nat) : List Int := ((List.range k).filter f).map (fun (j : Nat) => (j : Int))
theorem filt_yes (f : Nat → Bool) (k : Nat) (h : f k = true) : filt f (k + 1) = filt f k ++ [(k : Int)] := by
  simp [filt, List.range_succ, List.filter_append, h]
theorem filt_no (f : Nat → Bool) (k : Nat) (h : f k = false) : filt f (k + 1) = filt f k := by
  simp [filt, List.range_succ, List.filter_append, h]
theorem filt_len (f : Nat → Bool) (k : Nat) : (filt f k).length ≤ k := by
  simp only [filt, List.length_map]; exact Nat.le_trans (List.length_filter_le _ _) (by simp)
set_option maxHeartbeats 800000 in
theorem specNeighboursOf_yes (n i : Nat) (h1 : 1 ≤ n) (h2 : n ≤ 8) (hi : i < Pr.cnt n) (w : World) :
    Calls Try.prog 19 #[.int .i64 n, .int .i64 i] w (Gives w 3 (filt (fun j => nearB (pt n i) (pt n j)) (Pr.cnt n)) true) := by
  have hc := (Pr.cnt_le n (by omega)).1
  go_enter Try.func19, Try.ntmps19
  go_wp2_with fail
  refine (mePoint_yes n i h1 h2 hi _).mono ?_
  rintro e w' ⟨rfl, rfl⟩
  go_wp2_with fail
  go_loopw [6, 7] (fun v6 v7 wr => ∃ k : Nat, k ≤ Pr.cnt n ∧ v7 = .int .i64 k ∧ wr.ownsRow w.heap.size 3 1 v6 (filt (fun j => nearB (pt n i) (pt n j)) k).length ((filt (fun j => nearB (pt n i) (pt n j)) k).map (Value.int .i64)) ∧ Below w.heap.size w wr) (fun _ v7 _ => Pr.cnt n - (intOf v7).toNat)
  case atStart => exact ⟨0, Nat.zero_le _, rfl, World.ownsRow_nil _ _ _ _, Below.refl _ _⟩
  case round =>
    obtain ⟨k, hk, rfl, ho, hb⟩ := hrel
    have hl := filt_len (fun j => nearB (pt n i) (pt n j)) k
    by_cases hlt : k < Pr.cnt n
    · have hlt' : (k : Int) < (Pr.cnt n : Nat) := by omega
      go_wp2_with fail
      refine (meCount_any n h2 _).mono ?_
      rintro e w' ⟨rfl, rfl⟩
      go_wp2_with fail
      refine (meNear_any n i k h1 h2 (by omega) (by omega) _).mono ?_
      rintro e w2 ⟨rfl, hb2⟩
      have ho2 := own_now ho hb2
      have hB2 := bnext hb hb2
      have hz2 := hB2.size
      clear ho hb hb2
      cases hN : nearB (pt n i) (pt n k)
      · have e := Lib.hid (filt_no (fun j => nearB (pt n i) (pt n j)) k hN)
        clear hN
        go_wp2_with fail
        go_roundw
        case rel => exact ⟨k + 1, by omega, by go_num, by rw [e.out]; exact ho2, hB2⟩
        case measure => simp [intOf]; omega
      · have e := Lib.hid (filt_yes (fun j => nearB (pt n i) (pt n j)) k hN)
        clear hN
        go_wp2_with (at_builtin; refine append_int w.heap.size _ _ (filt (fun j => nearB (pt n i) (pt n j)) k) _ rfl _ _ rfl rfl rfl ho2 hz2 (by omega) ?_; intro v' w3 ho3 hb3)
        go_roundw
        case rel => exact ⟨k + 1, by omega, by go_num, by rw [e.out]; exact ho3, hB2.trans hb3⟩
        case measure => simp [intOf]; omega
    · have hk2 : k = Pr.cnt n := by omega
      subst hk2
      go_wp2_with fail
      refine (meCount_any n h2 _).mono ?_
      rintro e w' ⟨rfl, rfl⟩
      obtain ⟨-, a, cap, b, rfl, -, -⟩ := own_shape ho
      go_wp2_with fail
      go_ret2
      exact ⟨_, rfl, ho, hb⟩
set_option maxHeartbeats 400000 in
theorem implNeighboursOf_yes (n i : Nat) (h1 : 1 ≤ n) (h2 : n ≤ 8) (hi : i < Pr.cnt n) (w : World) :
    Calls Try.prog 18 #[.int .i64 n, .int .i64 i] w (Gives w 3 (filt (fun j => nearB (pt n i) (pt n j)) (Pr.cnt n)) true) := by
  have hc := (Pr.cnt_le n (by omega)).1
  go_enter Try.func18, Try.ntmps18
  go_wp2_with fail
  refine (meshOf_yes n h1 h2 _).mono ?_
  rintro e w1 ⟨rfl, hb1⟩
  go_wp2_with fail
  refine (hasPoint_yes n i h2 hi _).mono ?_
  rintro e w2 ⟨rfl, hb2⟩
  have hm2 : w2.cell? ⟨w1.heap.size, 0, none⟩ = some (.int .i64 n) := by rw [hb2.cell (by simp)]; go_cell
  go_wp2_with fail
  refine (spotAt_any n i h1 h2 (by omega) _).mono ?_
  rintro e w3 ⟨rfl, hb3⟩
  have hz2 := hb2.size
  simp only [World.size_alloc] at hz2
  have hm3 : w3.cell? ⟨w1.heap.size, 0, none⟩ = some (.int .i64 n) := (hb3.cell (by simp; omega)).trans hm2
  have hlt3 : w1.heap.size < w3.heap.size := by have := hb3.size; omega
  go_wp2_with fail
  refine (size_any n h2 _).mono ?_
  rintro e w4 ⟨rfl, hb4⟩
  have hB4 := bnext (balloc (bnext (bnext (balloc hb1 _) hb2) hb3) _) hb4
  have hz4 := hb4.size
  simp only [World.size_alloc] at hz4
  have hm4 : w4.cell? ⟨w1.heap.size, 0, none⟩ = some (.int .i64 n) := by
    rw [hb4.cell (by simp; omega), World.cell?_alloc_past _ _ _ (by exact hlt3)]; exact hm3
  have p0 : w4.cell? ⟨w3.heap.size, 0, none⟩ = some (.int .i64 ((n : Int) - (Pr.R i : Nat))) := by rw [hb4.cell (by simp)]; go_cell
  have p1 : w4.cell? ⟨w3.heap.size, 1, none⟩ = some (.int .i64 ((Pr.R i : Int) - (Pr.C i : Nat))) := by rw [hb4.cell (by simp)]; go_cell
  have p2 : w4.cell? ⟨w3.heap.size, 2, none⟩ = some (.int .i64 (Pr.C i : Nat)) := by rw [hb4.cell (by simp)]; go_cell
  clear hb1 hb2 hb3 hb4 hm2 hm3
  have HP0 := Lib.hid p0
  have HP1 := Lib.hid p1
  have HP2 := Lib.hid p2
  have HM4 := Lib.hid hm4
  have hs4 := hB4.size
  go_wp2_with fail
  clear hm4 p0 p1 p2
  go_loopw [9, 29] (fun v9 v29 wr => ∃ k : Nat, k ≤ Pr.cnt n ∧ v29 = .int .i64 k ∧ wr.ownsRow w4.heap.size 3 1 v9 (filt (fun j => nearB (pt n i) (pt n j)) k).length ((filt (fun j => nearB (pt n i) (pt n j)) k).map (Value.int .i64)) ∧ Below w4.heap.size w4 wr) (fun _ v29 _ => Pr.cnt n - (intOf v29).toNat)
  case atStart => exact ⟨0, Nat.zero_le _, rfl, World.ownsRow_nil _ _ _ _, Below.refl _ _⟩
  case round =>
    obtain ⟨k, hk, rfl, ho, hb⟩ := hrel
    have hl := filt_len (fun j => nearB (pt n i) (pt n j)) k
    by_cases hlt : k < Pr.cnt n
    · have hlt' : (k : Int) < (Pr.cnt n : Nat) := by omega
      have r0 : wr.cell? ⟨w3.heap.size, 0, none⟩ = some (.int .i64 ((n : Int) - (Pr.R i : Nat))) := (hb.cell (by simp; omega)).trans HP0.out
      have r1 : wr.cell? ⟨w3.heap.size, 1, none⟩ = some (.int .i64 ((Pr.R i : Int) - (Pr.C i : Nat))) := (hb.cell (by simp; omega)).trans HP1.out
      have r2 : wr.cell? ⟨w3.heap.size, 2, none⟩ = some (.int .i64 (Pr.C i : Nat)) := (hb.cell (by simp; omega)).trans HP2.out
      have rm : wr.cell? ⟨w1.heap.size, 0, none⟩ = some (.int .i64 n) := (hb.cell (by simp; omega)).trans HM4.out
      have hzr := hb.size
      go_wp2_with fail
      go_region_held3 (fun w' => Below wr.heap.size wr w' ∧ w'.cell? ⟨w3.heap.size, 0, none⟩ = some (.int .i64 ((n : Int) - (Pr.R i : Nat))) ∧ w'.cell? ⟨w3.heap.size, 1, none⟩ = some (.int .i64 ((Pr.R i : Int) - (Pr.C i : Nat))) ∧ w'.cell? ⟨w3.heap.size, 2, none⟩ = some (.int .i64 (Pr.C i : Nat)) ∧ w'.cell? ⟨w1.heap.size, 0, none⟩ = some (.int .i64 n))
        ((refine ⟨?_, ?_, ?_, ?_, ?_⟩ <;> first | assumption | exact Below.drew (Below.refl _ _) | (refine Below.drew ?_; assumption) | exact Below.refl _ _))
        (first | (go_at_call 56; go_split_ands; refine (spotAt_any n k h1 h2 (by omega) _).mono ?_; rintro e w' ⟨rfl, hb'⟩; have hB' : Below wr.heap.size wr w' := bnext (by assumption) hb'; have q0 := (hB'.cell (p := ⟨w3.heap.size, 0, none⟩) (by simp; omega)).trans r0; have q1 := (hB'.cell (p := ⟨w3.heap.size, 1, none⟩) (by simp; omega)).trans r1; have q2 := (hB'.cell (p := ⟨w3.heap.size, 2, none⟩) (by simp; omega)).trans r2; have qm := (hB'.cell (p := ⟨w1.heap.size, 0, none⟩) (by simp; omega)).trans rm) | (go_at_call 60; go_split_ands; refine (isBeside_any n i k h2 (by omega) (by omega) _).mono ?_; rintro e w' ⟨rfl, hb'⟩; have hB' : Below wr.heap.size wr w' := bnext (by assumption) hb'; have q0 := (hB'.cell (p := ⟨w3.heap.size, 0, none⟩) (by simp; omega)).trans r0; have q1 := (hB'.cell (p := ⟨w3.heap.size, 1, none⟩) (by simp; omega)).trans r1; have q2 := (hB'.cell (p := ⟨w3.heap.size, 2, none⟩) (by simp; omega)).trans r2; have qm := (hB'.cell (p := ⟨w1.heap.size, 0, none⟩) (by simp; omega)).trans rm))
      have hB5 : Below wr.heap.size wr w' := hB'
      have ho5 := own_now ho hB5
      have hB6 := hb.trans (hB5.mono hzr)
      have hz6 := hB6.size
      cases hN : nearB (pt n i) (pt n k)
      · have e := Lib.hid (filt_no (fun j => nearB (pt n i) (pt n j)) k hN)
        clear hN
        go_wp2_with fail
        go_roundw
        case rel => exact ⟨k + 1, by omega, by go_num, by rw [e.out]; exact ho5, hB6⟩
        case measure => simp [intOf]; omega
      · have e := Lib.hid (filt_yes (fun j => nearB (pt n i) (pt n j)) k hN)
        clear hN
        go_wp2_with (at_builtin; refine append_int w4.heap.size _ _ (filt (fun j => nearB (pt n i) (pt n j)) k) _ rfl _ _ rfl rfl rfl ho5 hz6 (by omega) ?_; intro v' w7 ho7 hb7)
        go_roundw
        case rel => exact ⟨k + 1, by omega, by go_num, by rw [e.out]; exact ho7, hB6.trans hb7⟩
        case measure => simp [intOf]; omega
    · have hk2 : k = Pr.cnt n := by omega
      subst hk2
      obtain ⟨-, a, cap, b, rfl, -, -⟩ := own_shape ho
      go_wp2_with fail
      go_ret2
      exact ⟨_, rfl, own_base ho hs4, bnext hB4 hb⟩
set_option maxHeartbeats 400000 in
theorem specNeighboursOf_no (n i : Int) (h : ¬ Pr.okPt n i) (w : World) :
    Calls Try.prog 19 #[.int .i64 n, .int .i64 i] w (Gives w 3 [] false) := by
  go_enter Try.func19, Try.ntmps19
  go_wp2_with fail
  refine (mePoint_no n i h _).mono ?_
  rintro e w' ⟨rfl, rfl⟩
  go_wp2_with fail
  go_ret2
  exact gives_none (Below.refl _ _)
set_option maxHeartbeats 400000 in
theorem implNeighboursOf_no (n i : Int) (h : ¬ Pr.okPt n i) (w : World) :
    Calls Try.prog 18 #[.int .i64 n, .int .i64 i] w (Gives w 3 [] false) := by
  by_cases hn : 1 ≤ n ∧ n ≤ 8
  · obtain ⟨h1, h2⟩ := hn
    obtain ⟨n, rfl⟩ := Int.eq_ofNat_of_zero_le (show 0 ≤ n by omega)
    have hi : ¬ (0 ≤ i ∧ i < (Pr.cnt n : Nat)) := fun ⟨h3, h4⟩ => h ⟨h1, h2, h3, by simpa using h4⟩
    clear h
    go_enter Try.func18, Try.ntmps18
    go_wp2_with fail
    refine (meshOf_yes n (by omega) (by omega) _).mono ?_
    rintro e w1 ⟨rfl, hb1⟩
    go_wp2_with fail
    refine (hasPoint_no n i (by omega) hi _).mono ?_
    rintro e w2 ⟨rfl, hb2⟩
    go_wp2_with fail
    go_ret2
    exact gives_none (bnext (balloc hb1 _) hb2)
  · clear h
    go_enter Try.func18, Try.ntmps18
    go_wp2_with fail
    refine (meshOf_no n hn _).mono ?_
    rintro e w1 ⟨rfl, hb1⟩
    go_wp2_with fail
    go_ret2
    exact gives_none (balloc hb1 _)
end Go.Proofs.Ytngadmjpjpmeoaa
