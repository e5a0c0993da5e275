import Derived.Test.YtfpadepeanejeaaMa5
namespace Go.Proofs.Ytfpadepeanejeaa
open Go.RowKit
set_option maxRecDepth 4000
def OutOwnerAt (w : World) (r0 : Int) (r1 : Bool) (e : Ending) (w' : World) : Prop := e = .returned (.tuple #[.int .i64 r0, .bool r1]) ∧ Below w.heap.size w w'
set_option maxHeartbeats 3200000 in
theorem lawOf_OwnerAt (n : Int) (i : Int) (w : World) (r0 : Int) (r1 : Bool)
    (hs : ∀  (w' : World), Calls Try.prog 22 #[.int .i64 n, .int .i64 i] w' (OutOwnerAt w' r0 r1))
    (hi : ∀  (w' : World), Calls Try.prog 23 #[.int .i64 n, .int .i64 i] w' (OutOwnerAt w' r0 r1)) :
    Calls Try.prog 5 #[.int .i64 n, .int .i64 i] w fun e w' => e = .returned (.bool true) ∧ Below w.heap.size w w' := by
  have HS := Lib.hid hs
  have HI := Lib.hid hi
  clear hs hi
  have hne0 : (r0 != r0) = false := by simp
  have hne1 : (r1 != r1) = false := by simp
  have hB0 : Below w.heap.size w w := Below.refl _ _
  go_enter Try.func5, Try.ntmps5
  go_wp2_with fail
  refine (HS.out  _  ).mono ?_
  rintro e w1 ⟨rfl, hb⟩
  have hc := chg_below hb
  clear hb
  have z1 := hc.size
  replace hB0 := below_chg hB0 hc (by omega) (by omega)
  clear hc
  go_wp2_with fail
  refine (HI.out  _  ).mono ?_
  rintro e w2 ⟨rfl, hb⟩
  have hc := chg_below hb
  clear hb
  have z2 := hc.size
  replace hB0 := below_chg hB0 hc (by omega) (by omega)
  clear hc
  go_wp2_with fail
  go_ret
  exact ⟨rfl, hB0⟩
set_option maxHeartbeats 400000 in
theorem specOwnerAt_yes (n i : Nat) (h1 : 1 ≤ n) (h2 : n ≤ 8) (hi : i < Pr.cnt n) (w : World) :
    Calls Try.prog 22 #[.int .i64 n, .int .i64 i] w (OutOwnerAt w (ownr i) true) := by
  have hc := (Pr.cnt_le n (by omega)).1
  go_enter Try.func22, Try.ntmps22
  go_wp2_with fail
  refine (mePoint_yes n i h1 h2 hi _).mono ?_
  rintro e w1 ⟨rfl, rfl⟩
  go_wp2_with fail
  refine (ckOwner_any n i h1 h2 (by omega) _).mono ?_
  rintro e w2 ⟨rfl, hb⟩
  go_wp2_with fail
  go_returns
  exact ⟨rfl, hb⟩
set_option maxHeartbeats 400000 in
theorem specOwnerAt_no (n i : Int) (h : ¬ Pr.okPt n i) (w : World) :
    Calls Try.prog 22 #[.int .i64 n, .int .i64 i] w (OutOwnerAt w 0 false) := by
  have HN := Lib.hid h
  clear h
  go_enter Try.func22, Try.ntmps22
  go_wp2_with fail
  refine (mePoint_no n i HN.out _).mono ?_
  rintro e w1 ⟨rfl, rfl⟩
  go_wp2_with fail
  go_returns
  exact ⟨rfl, Below.refl _ _⟩
set_option maxHeartbeats 800000 in
theorem implOwnerAt_yes (n i : Nat) (h1 : 1 ≤ n) (h2 : n ≤ 8) (hi : i < Pr.cnt n) (w : World) :
    Calls Try.prog 23 #[.int .i64 n, .int .i64 i] w (OutOwnerAt w (ownr i) true) := by
  have hc := (Pr.cnt_le n (by omega)).1
  go_enter Try.func23, Try.ntmps23
  go_wp2_with fail
  refine (meshOf_yes n h1 h2 _).mono ?_
  rintro e w1 ⟨rfl, hb1⟩
  go_wp2_with fail
  refine (hasPoint_yes n i h2 hi _).mono ?_
  rintro e w2 ⟨rfl, hb2⟩
  have hB2 : Below w.heap.size w w2 := by first | exact bnext hb1 hb2 | exact bnext (balloc hb1 _) hb2 | exact bnext (balloc (balloc hb1 _) _) hb2
  have hm2 : w2.cell? ⟨w1.heap.size, 0, none⟩ = some (.int .i64 n) := (hb2.cell (by simp)).trans (by rw [World.cell?_alloc_at _ _ _ _ rfl]; rfl)
  clear hb1 hb2
  go_wp2_with fail
  refine (spotAt_any n i h1 h2 (by omega) _).mono ?_
  rintro e w3 ⟨rfl, hb3⟩
  have hB3 := bnext hB2 hb3
  clear hB2 hb3
  go_wp2_with fail
  refine (owner_any n i (by omega) _).mono ?_
  rintro e w4 ⟨rfl, hb4⟩
  have hB4 := bnext hB3 hb4
  go_wp2_with fail
  go_returns
  exact ⟨rfl, hB4⟩
set_option maxHeartbeats 800000 in
theorem implOwnerAt_no (n i : Int) (h : ¬ Pr.okPt n i) (w : World) :
    Calls Try.prog 23 #[.int .i64 n, .int .i64 i] w (OutOwnerAt w 0 false) := by
  by_cases hn : 1 ≤ n ∧ n ≤ 8
  · obtain ⟨h1, h2⟩ := hn
    obtain ⟨n, rfl⟩ := Int.eq_ofNat_of_zero_le (show 0 ≤ n by omega)
    have hi : ¬ (0 ≤ i ∧ i < (Pr.cnt n : Nat)) := fun hi => h ⟨h1, h2, hi.1, by simpa using hi.2⟩
    have HI := Lib.hid hi
    clear h hi
    go_enter Try.func23, Try.ntmps23
    go_wp2_with fail
    refine (meshOf_yes n (by omega) (by omega) _).mono ?_
    rintro e w1 ⟨rfl, hb1⟩
    go_wp2_with fail
    refine (hasPoint_no n i (by omega) HI.out _).mono ?_
    rintro e w2 ⟨rfl, hb2⟩
    have hB2 : Below w.heap.size w w2 := by first | exact bnext hb1 hb2 | exact bnext (balloc hb1 _) hb2 | exact bnext (balloc (balloc hb1 _) _) hb2
    clear hb1 hb2
    go_wp2_with fail
    go_returns
    exact ⟨rfl, hB2⟩
  · have HN := Lib.hid hn
    clear h hn
    go_enter Try.func23, Try.ntmps23
    go_wp2_with fail
    refine (meshOf_no n HN.out _).mono ?_
    rintro e w1 ⟨rfl, hb1⟩
    go_wp2_with fail
    go_returns
    exact ⟨rfl, balloc hb1 _⟩
theorem law_OwnerAt (w : World) (n : Int) (_ : (Lit.int .i64 n).wf = true) (i : Int) (_ : (Lit.int .i64 i).wf = true) :
    Calls Try.prog 5 #[.int .i64 n, .int .i64 i] w fun e w' => e = .returned (.bool true) ∧ Below w.heap.size w w' := by
  by_cases h : Pr.okPt n i
  · obtain ⟨h1, h2, h3, h4⟩ := h
    obtain ⟨n, rfl⟩ := Int.eq_ofNat_of_zero_le (show 0 ≤ n by omega)
    obtain ⟨i, rfl⟩ := Int.eq_ofNat_of_zero_le h3
    exact lawOf_OwnerAt n i w _ _ (fun w => specOwnerAt_yes n i (by omega) (by omega) (by simpa using h4) w) (fun w => implOwnerAt_yes n i (by omega) (by omega) (by simpa using h4) w)
  · exact lawOf_OwnerAt n i w _ _ (fun w => specOwnerAt_no n i h w) (fun w => implOwnerAt_no n i h w)
end Go.Proofs.Ytfpadepeanejeaa
