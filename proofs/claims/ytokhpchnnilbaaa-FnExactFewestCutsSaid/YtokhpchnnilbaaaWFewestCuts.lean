import Derived.Test.YtokhpchnnilbaaaN25
namespace Go.Proofs.Ytokhpchnnilbaaa
open Go.RowKit
set_option maxRecDepth 4000
def OutFewestCuts (w : World) (r0 : Int) (r1 : Bool) (e : Ending) (w' : World) : Prop := e = .returned (.tuple #[.int .i64 r0, .bool r1]) ∧ Below w.heap.size w w'
set_option maxHeartbeats 3200000 in
theorem lawOf_FewestCuts (s : ByteArray) (w : World) (r0 : Int) (r1 : Bool)
    (hs : ∀  (w' : World), s.size ≤ 1048576 → Calls Try.prog 33 #[.string s] w' (OutFewestCuts w' r0 r1))
    (hi : ∀  (w' : World), s.size ≤ 1048576 → Calls Try.prog 34 #[.string s] w' (OutFewestCuts w' r0 r1)) :
    Calls Try.prog 10 #[.string s] w fun e w' => e = .returned (.bool true) ∧ Below w.heap.size w w' := by
  have HS := Lib.hid hs
  have HI := Lib.hid hi
  clear hs hi
  have hne0 : (r0 != r0) = false := by simp
  have hne1 : (r1 != r1) = false := by simp
  have hB0 : Below w.heap.size w w := Below.refl _ _
  by_cases hbig_s : (1048576 : Int) < (s.size : Int)
  · go_enter Try.func10, Try.ntmps10
    go_wp2_with fail
    go_ret
    exact ⟨rfl, Below.refl _ _⟩
  have hsz_s : s.size ≤ 1048576 := by omega
  go_enter Try.func10, Try.ntmps10
  go_wp2_with fail
  refine (HS.out  _ hsz_s ).mono ?_
  rintro e w1 ⟨rfl, hb⟩
  have hc := chg_below hb
  clear hb
  have z1 := hc.size
  replace hB0 := below_chg hB0 hc (by omega) (by omega)
  clear hc
  go_wp2_with fail
  refine (HI.out  _ hsz_s ).mono ?_
  rintro e w2 ⟨rfl, hb⟩
  have hc := chg_below hb
  clear hb
  have z2 := hc.size
  replace hB0 := below_chg hB0 hc (by omega) (by omega)
  clear hc
  go_wp2_with fail
  go_ret
  exact ⟨rfl, hB0⟩
set_option maxHeartbeats 800000 in
theorem specFC_no (s : ByteArray) (h : goodS s = false ∨ evB s = false) (w : World) : Calls Try.prog 33 #[.string s] w (OutFewestCuts w 0 false) := by
  have HG := Lib.hid (nlGood_any s w)
  cases hg : goodS s
  · rw [hg] at HG
    clear hg h
    go_enter Try.func33, Try.ntmps33
    go_wp2_with fail
    refine HG.out.mono ?_
    rintro e w' ⟨rfl, rfl⟩
    go_wp2_with fail
    go_returns
    exact ⟨rfl, Below.refl _ _⟩
  · have HE := Lib.hid (fun w => nlEven_any s hg w)
    rw [h.resolve_left (by rw [hg]; simp)] at HE
    rw [hg] at HG
    clear hg h
    go_enter Try.func33, Try.ntmps33
    go_wp2_with fail
    refine HG.out.mono ?_
    rintro e w' ⟨rfl, rfl⟩
    go_wp2_with fail
    refine (HE.out _).mono ?_
    rintro e w1 ⟨rfl, hb⟩
    go_wp2_with fail
    go_returns
    exact ⟨rfl, hb⟩
set_option maxHeartbeats 800000 in
theorem specFC_yes (s : ByteArray) (hg : goodS s = true) (he : evB s = true) (K : Nat) (hK : K < 5) (h1 : nE s K = true) (hb : ∀ j, j < K → nE s j = false) (w : World) : Calls Try.prog 33 #[.string s] w (OutFewestCuts w (((fcL s K).headD []).length : Nat) true) := by
  have HG := Lib.hid (nlGood_any s w)
  have HE := Lib.hid (fun w => nlEven_any s hg w)
  have HF := Lib.hid (fun w => nlFirst_any s hg K hK h1 hb w)
  rw [hg] at HG
  rw [he] at HE
  clear hg he h1 hb
  generalize (fcL s K).headD [] = xs at *
  go_enter Try.func33, Try.ntmps33
  go_wp2_with fail
  refine HG.out.mono ?_
  rintro e w' ⟨rfl, rfl⟩
  go_wp2_with fail
  refine (HE.out _).mono ?_
  rintro e w1 ⟨rfl, hb⟩
  go_wp2_with fail
  refine (HF.out _).mono ?_
  rintro e w2 ⟨v, rfl, ho, hb2⟩
  obtain ⟨va, vc, -, rfl, -, -⟩ := oi_shape ho
  clear ho
  go_wp2_with fail
  go_returns
  exact ⟨rfl, bnext hb hb2⟩
set_option maxHeartbeats 800000 in
theorem implFC_any (s : ByteArray) (xs : List Int) (ok : Bool) (w : World) (h : Calls Try.prog 36 #[.string s] w (FsV w xs ok)) : Calls Try.prog 34 #[.string s] w (OutFewestCuts w (xs.length : Nat) ok) := by
  have HF := Lib.hid h
  clear h
  go_enter Try.func34, Try.ntmps34
  go_wp2_with fail
  refine HF.out.mono ?_
  rintro e w1 ⟨v, rfl, ho, hb⟩
  obtain ⟨va, vc, -, rfl, -, -⟩ := oi_shape ho
  clear ho
  go_wp2_with fail
  go_returns
  exact ⟨rfl, hb⟩
theorem law_FewestCuts (w : World) (s : ByteArray) (_ : s.size ≤ maxLen) :
    Calls Try.prog 10 #[.string s] w fun e w' => e = .returned (.bool true) ∧ Below w.heap.size w w' := by
  cases hg : goodS s
  · exact lawOf_FewestCuts s w 0 false (fun w' _ => specFC_no s (.inl hg) w') (fun w' _ => implFC_any s [] false w' (implFS_bad s hg w'))
  · cases he : evB s
    · exact lawOf_FewestCuts s w 0 false (fun w' _ => specFC_no s (.inr he) w') (fun w' _ => implFC_any s [] false w' (implFS_no s hg he w'))
    · obtain ⟨K, hK, h1, hb, -⟩ := fsK_even s he
      exact lawOf_FewestCuts s w (((fcL s K).headD []).length : Nat) true (fun w' _ => specFC_yes s hg he K hK h1 hb w') (fun w' _ => implFC_any s _ true w' (implFS_yes s hg K hK h1 hb w'))
end Go.Proofs.Ytokhpchnnilbaaa
