import Derived.Test.YtokhpchnnilbaaaNx
import Derived.Test.YtokhpchnnilbaaaN13
namespace Go.Proofs.Ytokhpchnnilbaaa
open Go.RowKit
set_option maxRecDepth 4000
def OutWindowCounts (w : World) (r0 : List Int) (r1 : Bool) (e : Ending) (w' : World) : Prop := ∃ v0, e = .returned (.tuple #[v0, .bool r1]) ∧ OI w' w.heap.size w'.heap.size v0 r0 ∧ Below w.heap.size w w'
set_option maxHeartbeats 3200000 in
theorem lawOf_WindowCounts (s : ByteArray) (st : Int) (l : Int) (w : World) (r0 : List Int) (r1 : Bool) (hL0 : r0.length ≤ 100000)
    (hs : ∀  (w' : World), s.size ≤ 1048576 → Calls Try.prog 41 #[.string s, .int .i64 st, .int .i64 l] w' (OutWindowCounts w' r0 r1))
    (hi : ∀  (w' : World), s.size ≤ 1048576 → Calls Try.prog 42 #[.string s, .int .i64 st, .int .i64 l] w' (OutWindowCounts w' r0 r1)) :
    Calls Try.prog 14 #[.string s, .int .i64 st, .int .i64 l] w fun e w' => e = .returned (.bool true) ∧ Below w.heap.size w w' := by
  have HS := Lib.hid hs
  have HI := Lib.hid hi
  clear hs hi
  have hne1 : (r1 != r1) = false := by simp
  have hB0 : Below w.heap.size w w := Below.refl _ _
  by_cases hbig_s : (1048576 : Int) < (s.size : Int)
  · go_enter Try.func14, Try.ntmps14
    go_wp2_with fail
    go_ret
    exact ⟨rfl, Below.refl _ _⟩
  have hsz_s : s.size ≤ 1048576 := by omega
  go_enter Try.func14, Try.ntmps14
  go_wp2_with fail
  refine (HS.out  _ hsz_s ).mono ?_
  rintro e w1 ⟨vs0, rfl, os0, hb⟩
  have hc := chg_below hb
  clear hb
  have z1 := hc.size
  replace hB0 := below_chg hB0 hc (by omega) (by omega)
  clear hc
  obtain ⟨as0, cs0, -, rfl, -⟩ := oi_shape os0
  go_wp2_with fail
  refine (HI.out  _ hsz_s ).mono ?_
  rintro e w2 ⟨vg0, rfl, og0, hb⟩
  have hc := chg_below hb
  clear hb
  have z2 := hc.size
  replace os0 := oi_keep os0 hc (by omega) (by omega)
  replace hB0 := below_chg hB0 hc (by omega) (by omega)
  clear hc
  obtain ⟨ag0, cg0, -, rfl, -⟩ := oi_shape og0
  go_wp2_with fail
  refine (eqIntS_rd r0 ag0 as0 _ _ cg0 cs0 _ (oi_rds og0) (oi_rds os0)).mono ?_
  rintro e w3 ⟨rfl, hs⟩
  have hc := chg_same hs
  clear hs
  have z3 := hc.size
  replace os0 := oi_keep os0 hc (by omega) (by omega)
  replace og0 := oi_keep og0 hc (by omega) (by omega)
  replace hB0 := below_chg hB0 hc (by omega) (by omega)
  clear hc
  go_wp2_with fail
  refine (markIntS_chg r0 ag0 _ _ cg0 1 _ og0 (by omega) (by omega)).mono ?_
  rintro e w4 ⟨rfl, om0, hc⟩
  have hlm0 : (mkd 1 r0.length r0).length = r0.length := mkd_len _ _ _ (Nat.le_refl _)
  have HLM0 := Lib.hid hlm0
  clear hlm0
  clear og0
  have z4 := hc.size
  replace os0 := oi_keep os0 hc (by omega) (by omega)
  replace hB0 := below_chg hB0 hc (by omega) (by omega)
  clear hc
  go_wp2_with fail
  refine (heldIntS_rd r0 1 ag0 _ _ cg0 _ HLM0.out (oi_rds2 om0) (by omega) (by omega)).mono ?_
  rintro e w' ⟨rfl, rfl⟩
  go_wp2_with fail
  refine (HI.out  _ hsz_s ).mono ?_
  rintro e w5 ⟨vh0, rfl, oh0, hb⟩
  have hc := chg_below hb
  clear hb
  have z5 := hc.size
  replace os0 := oi_keep os0 hc (by omega) (by omega)
  replace om0 := oi_keep om0 hc (by omega) (by omega)
  replace hB0 := below_chg hB0 hc (by omega) (by omega)
  clear hc
  obtain ⟨ah0, ch0, -, rfl, -⟩ := oi_shape oh0
  go_wp2_with fail
  refine (eqIntS_rd r0 ah0 as0 _ _ ch0 cs0 _ (oi_rds oh0) (oi_rds os0)).mono ?_
  rintro e w6 ⟨rfl, hs⟩
  have hc := chg_same hs
  clear hs
  have z6 := hc.size
  replace os0 := oi_keep os0 hc (by omega) (by omega)
  replace om0 := oi_keep om0 hc (by omega) (by omega)
  replace oh0 := oi_keep oh0 hc (by omega) (by omega)
  replace hB0 := below_chg hB0 hc (by omega) (by omega)
  clear hc
  go_wp2_with fail
  refine (heldIntS_rd r0 1 ag0 _ _ cg0 _ HLM0.out (oi_rds2 om0) (by omega) (by omega)).mono ?_
  rintro e w' ⟨rfl, rfl⟩
  go_wp2_with fail
  go_ret
  exact ⟨rfl, hB0⟩
def wiB (s : ByteArray) (st l : Int) : Bool := decide (0 ≤ st ∧ st < (s.size : Int) ∧ 0 ≤ l ∧ l ≤ (s.size : Int))
set_option maxHeartbeats 800000 in
theorem specWin_bad (s : ByteArray) (hg : goodS s = false) (st l : Int) (w : World) : Calls Try.prog 41 #[.string s, .int .i64 st, .int .i64 l] w (OutWindowCounts w [] false) := by
  have HG := Lib.hid (nlGood_any s w)
  rw [hg] at HG
  clear hg
  go_enter Try.func41, Try.ntmps41
  go_wp2_with fail
  refine HG.out.mono ?_
  rintro e w' ⟨rfl, rfl⟩
  go_wp2_with fail
  go_returns
  exact ⟨_, rfl, oi_nil _ _ _, Below.refl _ _⟩
set_option maxHeartbeats 1600000 in
theorem specWin_no (s : ByteArray) (hg : goodS s = true) (st l : Int) (h : ¬ (0 ≤ st ∧ st < (s.size : Int) ∧ 0 ≤ l ∧ l ≤ (s.size : Int))) (w : World) : Calls Try.prog 41 #[.string s, .int .i64 st, .int .i64 l] w (OutWindowCounts w [] false) := by
  have h16 := (goodS_at hg).1
  have HG := Lib.hid (nlGood_any s w)
  rw [hg] at HG
  clear hg
  by_cases h1 : 0 ≤ st ∧ st ≤ (s.size : Int) - 1
  · have H1 := Lib.hid (l1In_yes st 0 ((s.size : Int) - 1) h1)
    have H2 := Lib.hid (l1In_no l 0 (s.size : Int) (by omega))
    clear h h1
    go_enter Try.func41, Try.ntmps41
    go_wp2_with fail
    refine HG.out.mono ?_
    rintro e w' ⟨rfl, rfl⟩
    go_wp2_with fail
    refine (H1.out _).mono ?_
    rintro e w' ⟨rfl, rfl⟩
    go_wp2_with fail
    refine (H2.out _).mono ?_
    rintro e w' ⟨rfl, rfl⟩
    go_wp2_with fail
    go_returns
    exact ⟨_, rfl, oi_nil _ _ _, Below.refl _ _⟩
  · have H1 := Lib.hid (l1In_no st 0 ((s.size : Int) - 1) h1)
    clear h h1
    go_enter Try.func41, Try.ntmps41
    go_wp2_with fail
    refine HG.out.mono ?_
    rintro e w' ⟨rfl, rfl⟩
    go_wp2_with fail
    refine (H1.out _).mono ?_
    rintro e w' ⟨rfl, rfl⟩
    go_wp2_with fail
    go_returns
    exact ⟨_, rfl, oi_nil _ _ _, Below.refl _ _⟩
set_option maxHeartbeats 1600000 in
theorem specWin_yes (s : ByteArray) (hg : goodS s = true) (st l : Nat) (hst : st < s.size) (hl : l ≤ s.size) (w : World) : Calls Try.prog 41 #[.string s, .int .i64 st, .int .i64 l] w (OutWindowCounts w (cL (wcnt s st l)) true) := by
  have h16 := (goodS_at hg).1
  have HG := Lib.hid (nlGood_any s w)
  have HW := Lib.hid (nlWindow_any s hg st l hst hl w)
  rw [hg] at HG
  clear hg
  have H1 := Lib.hid (l1In_yes (st : Int) 0 ((s.size : Int) - 1) (by omega))
  have H2 := Lib.hid (l1In_yes (l : Int) 0 (s.size : Int) (by omega))
  go_enter Try.func41, Try.ntmps41
  go_wp2_with fail
  refine HG.out.mono ?_
  rintro e w' ⟨rfl, rfl⟩
  go_wp2_with fail
  refine (H1.out _).mono ?_
  rintro e w' ⟨rfl, rfl⟩
  go_wp2_with fail
  refine (H2.out _).mono ?_
  rintro e w' ⟨rfl, rfl⟩
  go_wp2_with fail
  refine HW.out.mono ?_
  rintro e w1 ⟨v, rfl, ho, hb⟩
  go_wp2_with fail
  go_returns
  exact ⟨_, rfl, ho, hb⟩
set_option maxHeartbeats 1600000 in
theorem implWin_no (s : ByteArray) (st l : Int) (h : goodS s = false ∨ ¬ (0 ≤ st ∧ st < (s.size : Int) ∧ 0 ≤ l ∧ l ≤ (s.size : Int))) (w : World) : Calls Try.prog 42 #[.string s, .int .i64 st, .int .i64 l] w (OutWindowCounts w [] false) := by
  have HG := Lib.hid (neckOf_any s w)
  cases hg : goodS s
  · rw [hg, gT_no hg] at HG
    clear hg h
    go_enter Try.func42, Try.ntmps42
    go_wp2_with fail
    refine HG.out.mono ?_
    rintro e w' ⟨rfl, rfl⟩
    go_wp2_with fail
    go_returns
    exact ⟨_, rfl, oi_nil _ _ _, Below.refl _ _⟩
  · rw [hg] at h
    have HH := Lib.hid (hasWin_any s st l w)
    have hd : decide (0 ≤ st ∧ st < (s.size : Int) ∧ 0 ≤ l ∧ l ≤ (s.size : Int)) = false := decide_eq_false (h.resolve_left (by simp))
    rw [hd] at HH
    rw [hg, gT_yes hg] at HG
    clear hg h hd
    go_enter Try.func42, Try.ntmps42
    go_wp2_with fail
    refine HG.out.mono ?_
    rintro e w' ⟨rfl, rfl⟩
    go_wp2_with fail
    refine HH.out.mono ?_
    rintro e w' ⟨rfl, rfl⟩
    go_wp2_with fail
    go_returns
    exact ⟨_, rfl, oi_nil _ _ _, Below.refl _ _⟩
set_option maxHeartbeats 1600000 in
theorem implWin_yes (s : ByteArray) (hg : goodS s = true) (st l : Nat) (hst : st < s.size) (hl : l ≤ s.size) (w : World) : Calls Try.prog 42 #[.string s, .int .i64 st, .int .i64 l] w (OutWindowCounts w (cL (wcnt s st l)) true) := by
  have h16 := (goodS_at hg).1
  have HG := Lib.hid (neckOf_any s w)
  have HW := Lib.hid (window_any s h16 st l hst hl w)
  have HB := Lib.hid (beads_any (winT s st l) (win_good s hg st l hst hl) w)
  have HE : Hid (∀ k, (cnt (winT s st l) (winT s st l).size k : Int) = (wcnt s st l k : Int)) := Lib.hid (fun k => by rw [win_size s st l hst hl, wcnt_cnt s st l hst hl k l (Nat.le_refl _)])
  have HH := Lib.hid (hasWin_any s (st : Int) (l : Int) w)
  have hd : decide (0 ≤ (st : Int) ∧ (st : Int) < (s.size : Int) ∧ 0 ≤ (l : Int) ∧ (l : Int) ≤ (s.size : Int)) = true := decide_eq_true (by omega)
  have HT : Hid ((s ++ s).extract st (st + l) = winT s st l) := Lib.hid rfl
  rw [hd] at HH
  rw [hg, gT_yes hg] at HG
  rw [HT.out] at HW
  clear hg hd
  generalize winT s st l = t at *
  go_enter Try.func42, Try.ntmps42
  go_wp2_with fail
  refine HG.out.mono ?_
  rintro e w' ⟨rfl, rfl⟩
  go_wp2_with fail
  refine HH.out.mono ?_
  rintro e w' ⟨rfl, rfl⟩
  go_wp2_with fail
  refine HW.out.mono ?_
  rintro e w' ⟨rfl, rfl⟩
  go_wp2_with fail
  refine HB.out.mono ?_
  rintro e w1 ⟨rfl, hib, hb⟩
  have HC := Lib.hid (counts_any _ _ _ w1 (hib.congr (c' := fun k => (wcnt s st l k : Int)) (fun k _ => (HE.out k).symm)))
  have hz := hb.size
  clear hib
  go_wp2_with fail
  refine HC.out.mono ?_
  rintro e w2 ⟨v, rfl, ho, hb2⟩
  rw [iL_cL] at ho
  go_wp2_with fail
  go_returns
  exact ⟨_, rfl, oi_lo9 ho hz, bnext hb hb2⟩
theorem law_WindowCounts (w : World) (s : ByteArray) (_ : s.size ≤ maxLen) (st : Int) (_ : (Lit.int .i64 st).wf = true) (l : Int) (_ : (Lit.int .i64 l).wf = true) :
    Calls Try.prog 14 #[.string s, .int .i64 st, .int .i64 l] w fun e w' => e = .returned (.bool true) ∧ Below w.heap.size w w' := by
  by_cases h : 0 ≤ st ∧ st < (s.size : Int) ∧ 0 ≤ l ∧ l ≤ (s.size : Int)
  · cases hg : goodS s
    · exact lawOf_WindowCounts s st l w [] false (by simp) (fun w' _ => specWin_bad s hg st l w') (fun w' _ => implWin_no s st l (.inl hg) w')
    · obtain ⟨st', rfl⟩ := Int.eq_ofNat_of_zero_le h.1
      obtain ⟨l', rfl⟩ := Int.eq_ofNat_of_zero_le h.2.2.1
      exact lawOf_WindowCounts s st' l' w (cL (wcnt s st' l')) true (by simp [cL]) (fun w' _ => specWin_yes s hg st' l' (by omega) (by omega) w') (fun w' _ => implWin_yes s hg st' l' (by omega) (by omega) w')
  · cases hg : goodS s
    · exact lawOf_WindowCounts s st l w [] false (by simp) (fun w' _ => specWin_bad s hg st l w') (fun w' _ => implWin_no s st l (.inl hg) w')
    · exact lawOf_WindowCounts s st l w [] false (by simp) (fun w' _ => specWin_no s hg st l h w') (fun w' _ => implWin_no s st l (.inr h) w')
end Go.Proofs.Ytokhpchnnilbaaa
