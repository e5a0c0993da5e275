import Derived.Test.YtngadmjpjpmeoabSides
namespace Go.Proofs.Ytngadmjpjpmeoab
open Go.RowKit
/-- The number of labels that keep sides at the first i points. -/
def kc (n : Nat) : Nat → Int
  | 0 => 1
  | i + 1 => wrap64 (kc n i * (3 - ((zer (pt n i) 3).length : Nat)))
def Cnt (w : World) (x : Int) (ok : Bool) (e : Ending) (w' : World) : Prop := e = .returned (.tuple #[.int .i64 x, .bool ok]) ∧ Below w.heap.size w w'
set_option maxHeartbeats 800000 in
theorem specCK_yes (n : Nat) (h1 : 1 ≤ n) (h2 : n ≤ 7) (w : World) :
    Calls Try.prog 20 #[.int .i64 n] w (Cnt w (kc n (Pr.cnt n)) true) := by
  have hc := (Pr.cnt_le n (by omega)).1
  go_enter Try.func20, Try.ntmps20
  go_wp2_with fail
  refine (l1In_yes n 1 7 ⟨by omega, by omega⟩ _).mono ?_
  rintro e w' ⟨rfl, rfl⟩
  go_wp2_with fail
  go_loopw [4, 5] (fun v4 v5 wr => ∃ k : Nat, k ≤ Pr.cnt n ∧ v5 = .int .i64 k ∧ v4 = .int .i64 (kc n k) ∧ Below w.heap.size w wr) (fun _ v5 _ => Pr.cnt n - (intOf v5).toNat)
  case atStart => exact ⟨0, Nat.zero_le _, rfl, rfl, Below.refl _ _⟩
  case round =>
    obtain ⟨k, hk, rfl, rfl, hb⟩ := hrel
    by_cases hlt : k < Pr.cnt n
    · have hlt' : (k : Int) < (Pr.cnt n : Nat) := by omega
      have hs : kc n (k + 1) = wrap64 (kc n k * (3 - ((zer (pt n k) 3).length : Nat))) := rfl
      have HS := Lib.hid hs
      have hl := zer_len (pt n k) 3
      clear hs
      go_wp2_with fail
      refine (meCount_any n (by omega) _).mono ?_
      rintro e w' ⟨rfl, rfl⟩
      go_wp2_with fail
      refine (meSides_any n k h1 (by omega) (by omega) _).mono ?_
      rintro e w2 ⟨v, rfl, ho, hb2⟩
      obtain ⟨-, a, cap, b, rfl, -, -⟩ := own_shape ho
      go_wp2_with fail
      go_roundw
      case rel => exact ⟨k + 1, by omega, by go_num, by rw [HS.out], bnext hb hb2⟩
      case measure => simp [intOf]; omega
    · have hk2 : k = Pr.cnt n := by omega
      subst hk2
      go_wp2_with fail
      refine (meCount_any n (by omega) _).mono ?_
      rintro e w' ⟨rfl, rfl⟩
      go_wp2_with fail
      go_ret2
      exact ⟨rfl, hb⟩
set_option maxHeartbeats 800000 in
theorem implCK_yes (n : Nat) (h1 : 1 ≤ n) (h2 : n ≤ 7) (w : World) :
    Calls Try.prog 21 #[.int .i64 n] w (Cnt w (kc n (Pr.cnt n)) true) := by
  have hc := (Pr.cnt_le n (by omega)).1
  have hd7 : decide ((7 : Int) < (n : Int)) = false := by simp; omega
  go_enter Try.func21, Try.ntmps21
  go_wp2_with fail
  refine (meshOf_yes n h1 (by omega) _).mono ?_
  rintro e w1 ⟨rfl, hb1⟩
  go_wp2_with fail
  refine (size_any n (by omega) _).mono ?_
  rintro e w2 ⟨rfl, hb2⟩
  have hm2 : w2.cell? ⟨w1.heap.size, 0, none⟩ = some (.int .i64 n) := by rw [hb2.cell (by simp)]; go_cell
  have hz2 := hb2.size
  simp only [World.size_alloc] at hz2
  have hB2 := bnext (balloc hb1 _) hb2
  have HM := Lib.hid hm2
  clear hm2 hb1 hb2
  go_wp2_with fail
  go_loopw [6, 21] (fun v6 v21 wr => ∃ k : Nat, k ≤ Pr.cnt n ∧ v21 = .int .i64 k ∧ v6 = .int .i64 (kc n k) ∧ Below w2.heap.size w2 wr) (fun _ v21 _ => Pr.cnt n - (intOf v21).toNat)
  case atStart => exact ⟨0, Nat.zero_le _, rfl, rfl, Below.refl _ _⟩
  case round =>
    obtain ⟨k, hk, rfl, rfl, hb⟩ := hrel
    by_cases hlt : k < Pr.cnt n
    · have hlt' : (k : Int) < (Pr.cnt n : Nat) := by omega
      have hs : kc n (k + 1) = wrap64 (kc n k * (3 - ((zer (pt n k) 3).length : Nat))) := rfl
      have HS := Lib.hid hs
      have hl := zer_len (pt n k) 3
      have hm : wr.cell? ⟨w1.heap.size, 0, none⟩ = some (.int .i64 n) := (hb.cell (by show w1.heap.size < w2.heap.size; omega)).trans HM.out
      have HL := Lib.hid hl
      clear hs hl
      go_wp2_with fail
      refine (spotAt_any n k h1 (by omega) (by omega) _).mono ?_
      rintro e w3 ⟨rfl, hb3⟩
      go_wp2_with fail
      refine (zeros_any _ _ _ _).mono ?_
      rintro e w4 ⟨v, rfl, ho, hb4⟩
      obtain ⟨-, a, cap, b, rfl, -, -⟩ := own_shape ho
      have hl : (zer [(n : Int) - (Pr.R k : Nat), (Pr.R k : Int) - (Pr.C k : Nat), (Pr.C k : Nat)] 3).length ≤ 3 := HL.out
      go_wp2_with fail
      go_roundw
      case rel => exact ⟨k + 1, by omega, by go_num, by rw [HS.out]; rfl, bnext (bnext hb hb3) hb4⟩
      case measure => simp [intOf]; omega
    · have hk2 : k = Pr.cnt n := by omega
      subst hk2
      go_wp2_with fail
      go_ret2
      exact ⟨rfl, bnext hB2 hb⟩
set_option maxHeartbeats 400000 in
theorem specCK_no (n : Int) (h : ¬ (1 ≤ n ∧ n ≤ 7)) (w : World) :
    Calls Try.prog 20 #[.int .i64 n] w (Cnt w 0 false) := by
  go_enter Try.func20, Try.ntmps20
  go_wp2_with fail
  refine (l1In_no n 1 7 h _).mono ?_
  rintro e w' ⟨rfl, rfl⟩
  go_wp2_with fail
  go_ret2
  exact ⟨rfl, Below.refl _ _⟩
set_option maxHeartbeats 400000 in
theorem implCK_no (n : Int) (h : ¬ (1 ≤ n ∧ n ≤ 7)) (w : World) :
    Calls Try.prog 21 #[.int .i64 n] w (Cnt w 0 false) := by
  by_cases hn : 1 ≤ n ∧ n ≤ 8
  · have h8 : n = 8 := by omega
    subst h8
    go_enter Try.func21, Try.ntmps21
    go_wp2_with fail
    refine (meshOf_yes 8 (by omega) (by omega) _).mono ?_
    rintro e w1 ⟨rfl, hb1⟩
    go_wp2_with fail
    go_ret2
    exact ⟨rfl, balloc hb1 _⟩
  · have HN := Lib.hid hn
    clear h hn
    go_enter Try.func21, Try.ntmps21
    go_wp2_with fail
    refine (meshOf_no n HN.out _).mono ?_
    rintro e w1 ⟨rfl, hb1⟩
    go_wp2_with fail
    go_ret2
    exact ⟨rfl, balloc hb1 _⟩
set_option maxHeartbeats 400000 in
theorem lawOf_CK (n x : Int) (ok : Bool) (hs : ∀ w, Calls Try.prog 20 #[.int .i64 n] w (Cnt w x ok)) (hi : ∀ w, Calls Try.prog 21 #[.int .i64 n] w (Cnt w x ok)) (w : World) :
    Calls Try.prog 7 #[.int .i64 n] w fun e w' => e = .returned (.bool true) ∧ Below w.heap.size w w' := by
  have HS := Lib.hid hs
  have HI := Lib.hid hi
  clear hs hi
  have hok : (ok != ok) = false := by simp
  have hx : (x != x) = false := by simp
  go_enter Try.func7, Try.ntmps7
  go_wp2_with fail
  refine (HS.out _).mono ?_
  rintro e w1 ⟨rfl, hb1⟩
  go_wp2_with fail
  refine (HI.out _).mono ?_
  rintro e w2 ⟨rfl, hb2⟩
  go_wp2_with fail
  go_ret
  exact ⟨rfl, bnext hb1 hb2⟩
theorem law_CountKeeping (n : Int) (_ : (Lit.int .i64 n).wf = true) (w : World) :
    Calls Try.prog 7 #[.int .i64 n] w fun e w' => e = .returned (.bool true) ∧ Below w.heap.size w w' := by
  by_cases h : 1 ≤ n ∧ n ≤ 7
  · obtain ⟨h1, h2⟩ := h
    obtain ⟨n, rfl⟩ := Int.eq_ofNat_of_zero_le (show 0 ≤ n by omega)
    exact lawOf_CK n _ _ (fun w => specCK_yes n (by omega) (by omega) w) (fun w => implCK_yes n (by omega) (by omega) w) w
  · exact lawOf_CK n _ _ (fun w => specCK_no n h w) (fun w => implCK_no n h w) w
end Go.Proofs.Ytngadmjpjpmeoab
