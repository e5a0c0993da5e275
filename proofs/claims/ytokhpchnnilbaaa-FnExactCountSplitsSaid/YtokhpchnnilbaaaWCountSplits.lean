import Derived.Test.YtokhpchnnilbaaaN22
namespace Go.Proofs.Ytokhpchnnilbaaa
open Go.RowKit
set_option maxRecDepth 4000
def OutCountSplits (w : World) (r0 : Int) (r1 : Bool) (e : Ending) (w' : World) : Prop := e = .returned (.tuple #[.int .i64 r0, .bool r1]) ∧ Below w.heap.size w w'
set_option maxHeartbeats 3200000 in
theorem lawOf_CountSplits (s : ByteArray) (k : Int) (w : World) (r0 : Int) (r1 : Bool)
    (hs : ∀  (w' : World), s.size ≤ 1048576 → Calls Try.prog 37 #[.string s, .int .i64 k] w' (OutCountSplits w' r0 r1))
    (hi : ∀  (w' : World), s.size ≤ 1048576 → Calls Try.prog 38 #[.string s, .int .i64 k] w' (OutCountSplits w' r0 r1)) :
    Calls Try.prog 12 #[.string s, .int .i64 k] w fun e w' => e = .returned (.bool true) ∧ Below w.heap.size w w' := by
  have HS := Lib.hid hs
  have HI := Lib.hid hi
  clear hs hi
  have hne0 : (r0 != r0) = false := by simp
  have hne1 : (r1 != r1) = false := by simp
  have hB0 : Below w.heap.size w w := Below.refl _ _
  by_cases hbig_s : (1048576 : Int) < (s.size : Int)
  · go_enter Try.func12, Try.ntmps12
    go_wp2_with fail
    go_ret
    exact ⟨rfl, Below.refl _ _⟩
  have hsz_s : s.size ≤ 1048576 := by omega
  go_enter Try.func12, Try.ntmps12
  go_wp2_with fail
  refine (HS.out  _ hsz_s ).mono ?_
  rintro e w1 ⟨rfl, hb⟩
  have hc := chg_below hb
  clear hb
  have z1 := hc.size
  replace hB0 := below_chg hB0 hc (by omega) (by omega)
  clear hc
  go_wp2_with fail
  refine (HI.out  _ hsz_s ).mono ?_
  rintro e w2 ⟨rfl, hb⟩
  have hc := chg_below hb
  clear hb
  have z2 := hc.size
  replace hB0 := below_chg hB0 hc (by omega) (by omega)
  clear hc
  go_wp2_with fail
  go_ret
  exact ⟨rfl, hB0⟩
set_option maxHeartbeats 800000 in
theorem specCS_no (s : ByteArray) (k : Int) (h : goodS s = false ∨ ¬ (0 ≤ k ∧ k ≤ 4)) (w : World) : Calls Try.prog 37 #[.string s, .int .i64 k] w (OutCountSplits w 0 false) := by
  have HG := Lib.hid (nlGood_any s w)
  cases hg : goodS s
  · rw [hg] at HG
    clear hg h
    go_enter Try.func37, Try.ntmps37
    go_wp2_with fail
    refine HG.out.mono ?_
    rintro e w' ⟨rfl, rfl⟩
    go_wp2_with fail
    go_returns
    exact ⟨rfl, Below.refl _ _⟩
  · have HI := Lib.hid (l1In_no k 0 4 (h.resolve_left (by rw [hg]; simp)))
    rw [hg] at HG
    clear hg h
    go_enter Try.func37, Try.ntmps37
    go_wp2_with fail
    refine HG.out.mono ?_
    rintro e w' ⟨rfl, rfl⟩
    go_wp2_with fail
    refine (HI.out _).mono ?_
    rintro e w' ⟨rfl, rfl⟩
    go_wp2_with fail
    go_returns
    exact ⟨rfl, Below.refl _ _⟩
set_option maxHeartbeats 800000 in
theorem specCS_yes (s : ByteArray) (hg : goodS s = true) (k : Nat) (hk : k ≤ 4) (w : World) : Calls Try.prog 37 #[.string s, .int .i64 k] w (OutCountSplits w ((fcL s k).length : Nat) true) := by
  have HG := Lib.hid (nlGood_any s w)
  have HI := Lib.hid (l1In_yes (k : Int) 0 4 (by omega))
  have HS := Lib.hid (fun w => nlSplits_start s hg k hk w)
  rw [hg] at HG
  clear hg
  go_enter Try.func37, Try.ntmps37
  go_wp2_with fail
  refine HG.out.mono ?_
  rintro e w' ⟨rfl, rfl⟩
  go_wp2_with fail
  refine (HI.out _).mono ?_
  rintro e w' ⟨rfl, rfl⟩
  go_wp2_with fail
  refine (HS.out _).mono ?_
  rintro e w1 ⟨v, rfl, -, hb⟩
  go_wp2_with fail
  go_returns
  exact ⟨rfl, hb⟩
set_option maxHeartbeats 800000 in
theorem implCS_no (s : ByteArray) (k : Int) (h : goodS s = false ∨ ¬ (0 ≤ k ∧ k ≤ 4)) (w : World) : Calls Try.prog 38 #[.string s, .int .i64 k] w (OutCountSplits w 0 false) := by
  have HG := Lib.hid (neckOf_any s w)
  cases hg : goodS s
  · rw [hg, gT_no hg] at HG
    clear hg h
    go_enter Try.func38, Try.ntmps38
    go_wp2_with fail
    refine HG.out.mono ?_
    rintro e w' ⟨rfl, rfl⟩
    go_wp2_with fail
    go_returns
    exact ⟨rfl, Below.refl _ _⟩
  · have hk := h.resolve_left (by rw [hg]; simp)
    rw [hg, gT_yes hg] at HG
    clear hg h
    by_cases h0 : k < 0
    · clear hk
      go_enter Try.func38, Try.ntmps38
      go_wp2_with fail
      refine HG.out.mono ?_
      rintro e w' ⟨rfl, rfl⟩
      go_wp2_with fail
      go_returns
      exact ⟨rfl, Below.refl _ _⟩
    · have h4 : 4 < k := by omega
      clear hk
      go_enter Try.func38, Try.ntmps38
      go_wp2_with fail
      refine HG.out.mono ?_
      rintro e w' ⟨rfl, rfl⟩
      go_wp2_with fail
      go_returns
      exact ⟨rfl, Below.refl _ _⟩
set_option maxHeartbeats 800000 in
theorem implCS_yes (s : ByteArray) (hg : goodS s = true) (k : Nat) (hk : k ≤ 4) (w : World) : Calls Try.prog 38 #[.string s, .int .i64 k] w (OutCountSplits w ((fcL s k).length : Nat) true) := by
  have HG := Lib.hid (neckOf_any s w)
  have HS := Lib.hid (fun w => fairCuts_any s hg k hk w)
  have h0 : ¬ (k : Int) < 0 := by omega
  have h4 : ¬ (4 : Int) < (k : Int) := by omega
  rw [hg, gT_yes hg] at HG
  clear hg
  go_enter Try.func38, Try.ntmps38
  go_wp2_with fail
  refine HG.out.mono ?_
  rintro e w' ⟨rfl, rfl⟩
  go_wp2_with fail
  refine (HS.out _).mono ?_
  rintro e w1 ⟨v, rfl, hl, hb⟩
  obtain ⟨aO, capO, bO, vs, rfl, -⟩ := ls_read hl
  clear hl
  go_wp2_with fail
  go_returns
  exact ⟨rfl, hb⟩
theorem law_CountSplits (w : World) (s : ByteArray) (_ : s.size ≤ maxLen) (k : Int) (_ : (Lit.int .i64 k).wf = true) :
    Calls Try.prog 12 #[.string s, .int .i64 k] w fun e w' => e = .returned (.bool true) ∧ Below w.heap.size w w' := by
  by_cases hk : 0 ≤ k ∧ k ≤ 4
  · cases hg : goodS s
    · exact lawOf_CountSplits s k w 0 false (fun w' _ => specCS_no s k (.inl hg) w') (fun w' _ => implCS_no s k (.inl hg) w')
    · obtain ⟨n, rfl⟩ := Int.eq_ofNat_of_zero_le hk.1
      exact lawOf_CountSplits s n w ((fcL s n).length : Nat) true (fun w' _ => specCS_yes s hg n (by omega) w') (fun w' _ => implCS_yes s hg n (by omega) w')
  · exact lawOf_CountSplits s k w 0 false (fun w' _ => specCS_no s k (.inr hk) w') (fun w' _ => implCS_no s k (.inr hk) w')
end Go.Proofs.Ytokhpchnnilbaaa
