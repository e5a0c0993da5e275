import Derived.Test.YtfhohmahckjpeaaK12
namespace Go.Proofs.Ytfhohmahckjpeaa
open Go.RowKit
set_option maxRecDepth 4000
def OutCountStable (w : World) (r0 : Int) (r1 : Bool) (e : Ending) (w' : World) : Prop := e = .returned (.tuple #[.int .i64 r0, .bool r1]) ∧ Below w.heap.size w w'
set_option maxHeartbeats 3200000 in
theorem lawOf_CountStable (n : Int) (k : Int) (w : World) (r0 : Int) (r1 : Bool)
    (hs : ∀  (w' : World), Calls Try.prog 38 #[.int .i64 n, .int .i64 k] w' (OutCountStable w' r0 r1))
    (hi : ∀  (w' : World), Calls Try.prog 39 #[.int .i64 n, .int .i64 k] w' (OutCountStable w' r0 r1)) :
    Calls Try.prog 13 #[.int .i64 n, .int .i64 k] w fun e w' => e = .returned (.bool true) ∧ Below w.heap.size w w' := by
  have HS := Lib.hid hs
  have HI := Lib.hid hi
  clear hs hi
  have hne0 : (r0 != r0) = false := by simp
  have hne1 : (r1 != r1) = false := by simp
  have hB0 : Below w.heap.size w w := Below.refl _ _
  go_enter Try.func13, Try.ntmps13
  go_wp2_with fail
  refine (HS.out  _  ).mono ?_
  rintro e w1 ⟨rfl, hb⟩
  have hc := chg_below hb
  clear hb
  have z1 := hc.size
  replace hB0 := below_chg hB0 hc (by omega) (by omega)
  clear hc
  go_wp2_with fail
  refine (HI.out  _  ).mono ?_
  rintro e w2 ⟨rfl, hb⟩
  have hc := chg_below hb
  clear hb
  have z2 := hc.size
  replace hB0 := below_chg hB0 hc (by omega) (by omega)
  clear hc
  go_wp2_with fail
  go_ret
  exact ⟨rfl, hB0⟩
set_option maxHeartbeats 400000 in
theorem specCountStable_no (n k : Int) (h : ¬ (1 ≤ n ∧ n ≤ 8 ∧ 1 ≤ k ∧ k ≤ n)) (w : World) :
    Calls Try.prog 38 #[.int .i64 n, .int .i64 k] w (OutCountStable w 0 false) := by
  have HG := Lib.hid (knGiven_no n k h w)
  clear h
  go_enter Try.func38, Try.ntmps38
  go_wp2_with fail
  refine HG.out.mono ?_
  rintro e w' ⟨rfl, rfl⟩
  go_wp2_with fail
  go_returns
  exact ⟨rfl, Below.refl _ _⟩
theorem wrap_small (q : Nat) (h : q ≤ 8 * 70) : wrap64 (q : Int) = (q : Int) := IntWalk.wrap64_in _ ⟨by omega, by omega⟩
theorem chs_bd : ∀ n, n < 9 → ∀ k, k < 9 → chs n k ≤ 70 := by decide +kernel
set_option maxHeartbeats 800000 in
theorem specCountStable_one (n : Nat) (h : 1 ≤ (n : Int) ∧ (n : Int) ≤ 8 ∧ (1 : Int) ≤ 1 ∧ (1 : Int) ≤ n) (w : World) :
    Calls Try.prog 38 #[.int .i64 n, .int .i64 1] w (OutCountStable w ((n : Nat) : Int) true) := by
  have HG := Lib.hid (knGiven_yes n 1 h w)
  go_enter Try.func38, Try.ntmps38
  go_wp2_with fail
  refine HG.out.mono ?_
  rintro e w' ⟨rfl, rfl⟩
  go_wp2_with fail
  go_returns
  exact ⟨rfl, Below.refl _ _⟩
set_option maxHeartbeats 800000 in
theorem specCountStable_more (n k : Nat) (hk1 : k ≠ 1) (h : 1 ≤ (n : Int) ∧ (n : Int) ≤ 8 ∧ 1 ≤ (k : Int) ∧ (k : Int) ≤ n) (w : World) :
    Calls Try.prog 38 #[.int .i64 n, .int .i64 k] w (OutCountStable w ((cntSt n k : Nat) : Int) true) := by
  have HG := Lib.hid (knGiven_yes n k h w)
  have hkb : ((k : Int) == 1) = false := by simp; omega
  by_cases h2 : n < 2 * k
  · have HE : Hid (cntSt n k = 0) := Lib.hid (by simp [cntSt, hk1, h2])
    rw [HE.out]
    have h2i : (n : Int) < 2 * (k : Int) := by omega
    clear hk1
    obtain ⟨h1, h2, h3, h4⟩ := h
    go_enter Try.func38, Try.ntmps38
    go_wp2_with fail
    refine HG.out.mono ?_
    rintro e w' ⟨rfl, rfl⟩
    go_wp2_with fail
    go_returns
    exact ⟨rfl, Below.refl _ _⟩
  · have HC := knChoose_any (n - k) k (by omega) (by omega) w
    have hc := chs_bd (n - k) (by omega) k (by omega)
    have HE : cntSt n k = n * chs (n - k) k / (n - k) := by simp [cntSt, hk1, h2]
    generalize chs (n - k) k = c at *
    obtain ⟨p, hp⟩ : ∃ p, p = n * c := ⟨_, rfl⟩
    have hp2 : p ≤ 8 * 70 := by rw [hp]; exact Nat.mul_le_mul (by omega) hc
    obtain ⟨q, hq⟩ : ∃ q, q = p / (n - k) := ⟨_, rfl⟩
    have hq2 : q ≤ p := by rw [hq]; exact Nat.div_le_self _ _
    have hqi : (p : Int) / ((n : Int) - (k : Int)) = (q : Int) := by
      rw [hq, show (n : Int) - (k : Int) = ((n - k : Nat) : Int) by omega]; push_cast; rfl
    have e1 : (n : Int) * (c : Int) = (p : Int) := by rw [hp]; push_cast; rfl
    rw [← hp, ← hq] at HE
    rw [HE]
    rw [show ((n - k : Nat) : Int) = (n : Int) - (k : Int) by omega] at HC
    have HCC := Lib.hid HC
    have e2 : wrap64 ((n : Int) * (c : Int)) = (p : Int) := by rw [e1]; exact wrap_small p hp2
    have e3 : wrap64 ((p : Int) / ((n : Int) - (k : Int))) = (q : Int) := by rw [hqi]; exact wrap_small q (Nat.le_trans hq2 hp2)
    have e4 : (p : Int).tdiv ((n : Int) - (k : Int)) = (q : Int) := by rw [Int.tdiv_eq_ediv_of_nonneg (Int.natCast_nonneg _)]; exact hqi
    have e5 : wrap64 ((p : Int).tdiv ((n : Int) - (k : Int))) = (q : Int) := by rw [e4]; exact wrap_small q (Nat.le_trans hq2 hp2)
    have e6 : wrap64 (p : Int) = (p : Int) := wrap_small p hp2
    have e7 : wrap64 (q : Int) = (q : Int) := wrap_small q (Nat.le_trans hq2 hp2)
    have h2i : ¬ (n : Int) < 2 * (k : Int) := by omega
    have h0 : ¬ (n : Int) - (k : Int) = 0 := by omega
    obtain ⟨g1, g2, g3, g4⟩ := h
    clear hk1 hp hq HC HE hp2 hq2 h2
    go_enter Try.func38, Try.ntmps38
    go_wp2_with fail
    refine HG.out.mono ?_
    rintro e w' ⟨rfl, rfl⟩
    go_wp2_with fail
    refine HCC.out.mono ?_
    rintro e w' ⟨rfl, rfl⟩
    go_wp2_with fail
    go_returns
    exact ⟨by first | (rw [e7]; rfl) | (rw [e6, e5]; rfl) | rfl | (rw [e2, e5]; rfl) | (rw [e5]; rfl) | (rw [e3]; rfl) | (rw [e1, e5]; rfl), Below.refl _ _⟩
theorem specCountStable_yes (n k : Nat) (h : 1 ≤ (n : Int) ∧ (n : Int) ≤ 8 ∧ 1 ≤ (k : Int) ∧ (k : Int) ≤ n) (w : World) :
    Calls Try.prog 38 #[.int .i64 n, .int .i64 k] w (OutCountStable w ((cntSt n k : Nat) : Int) true) := by
  by_cases hk : k = 1
  · subst hk
    have := specCountStable_one n h w
    rw [show cntSt n 1 = n from rfl]
    exact this
  · exact specCountStable_more n k hk h w
set_option maxHeartbeats 800000 in
theorem implCountStable_no (n k : Int) (h : ¬ (1 ≤ n ∧ n ≤ 8 ∧ 1 ≤ k ∧ k ≤ n)) (w : World) :
    Calls Try.prog 39 #[.int .i64 n, .int .i64 k] w (OutCountStable w 0 false) := by
  have HG := Lib.hid (knGraph_no n k h w)
  clear h
  go_enter Try.func39, Try.ntmps39
  go_wp2_with fail
  refine HG.out.mono ?_
  rintro e w1 ⟨rfl, hb1⟩
  have hz := hb1.size
  go_wp2_with fail
  refine (stable_any [] 0 0 (by omega) (by simp) (by simp) none 0 _ ⟨0, 0, ⟨by simp [toI, maxLen], fun j hj => by simp [toI] at hj⟩, .inl rfl⟩).mono ?_
  rintro e w2 ⟨a', cap', rfl, -, hb2⟩
  rw [show toI (stabL 0 []) = [] from rfl]
  have hb2' : Below w1.heap.size w1 w2 := (balloc (Below.refl _ _) _).trans (hb2.mono (by simp))
  have i0 : ∀ w, (Instr.field 40 (.agg #[.slice a' 0 cap', .int .i64 0, .int .i64 0]) 0).run Try.prog w = .ok (.slice a' 0 cap') w := fun _ => by kernel_rfl
  go_wp2_with fail
  go_returns
  exact ⟨rfl, bnext hb1 hb2'⟩
set_option maxHeartbeats 800000 in
theorem implCountStable_yes (n k : Nat) (h : 1 ≤ (n : Int) ∧ (n : Int) ≤ 8 ∧ 1 ≤ (k : Int) ∧ (k : Int) ≤ n) (w : World) :
    Calls Try.prog 39 #[.int .i64 n, .int .i64 k] w (OutCountStable w (((cntSt n k : Nat) : Int)) true) := by
  have HG := Lib.hid (knGraph_yes n k (by omega) (by omega) (by omega) w)
  have HL := Lib.hid (kI_len n k (by omega))
  have HM := Lib.hid (fun a cap (w : World) => stable_any (kS n k) n k (by omega) (fun s hs => (kS_lt n k (by omega) s hs).2) (by rw [← kI_length]; exact kI_len n k (by omega)) a cap w)
  go_enter Try.func39, Try.ntmps39
  go_wp2_with fail
  refine HG.out.mono ?_
  rintro e w1 ⟨v, rfl, ho, hb1⟩
  obtain ⟨va, vc, -, rfl, -, hrd⟩ := oi_shape (oi_new ho)
  have hz := hb1.size
  have HR := Lib.hid hrd
  clear hrd ho
  go_wp2_with fail
  refine (HM.out va vc _ (rds_mono (rds_later HR.out (balloc (Below.refl _ _) _)) (by simp))).mono ?_
  rintro e w2 ⟨a', cap', rfl, hr2, hb2⟩
  have hb2' : Below w1.heap.size w1 w2 := (balloc (Below.refl _ _) _).trans (hb2.mono (by simp))
  have HQ : Hid (((toI (stabL n (kS n k))).length : Int) = ((cntSt n k : Nat) : Int)) := Lib.hid (by rw [toI_len]; exact congrArg _ (stS_len n (by omega) (by omega) k (by omega) (by omega) (by omega)))
  clear hr2
  have i0 : ∀ w, (Instr.field 40 (.agg #[.slice a' (toI (stabL n (kS n k))).length cap', .int .i64 n, .int .i64 k]) 0).run Try.prog w = .ok (.slice a' (toI (stabL n (kS n k))).length cap') w := fun _ => by kernel_rfl
  go_wp2_with fail
  go_returns
  exact ⟨by rw [HQ.out]; rfl, bnext hb1 hb2'⟩
theorem law_CountStable (w : World) (n : Int) (_ : (Lit.int .i64 n).wf = true) (k : Int) (_ : (Lit.int .i64 k).wf = true) :
    Calls Try.prog 13 #[.int .i64 n, .int .i64 k] w fun e w' => e = .returned (.bool true) ∧ Below w.heap.size w w' := by
  by_cases h : 1 ≤ n ∧ n ≤ 8 ∧ 1 ≤ k ∧ k ≤ n
  · obtain ⟨n', rfl⟩ := Int.eq_ofNat_of_zero_le (show 0 ≤ n by omega)
    obtain ⟨k', rfl⟩ := Int.eq_ofNat_of_zero_le (show 0 ≤ k by omega)
    exact lawOf_CountStable n' k' w (((cntSt n' k' : Nat) : Int)) true (fun w' => specCountStable_yes n' k' h w') (fun w' => implCountStable_yes n' k' h w')
  · exact lawOf_CountStable n k w 0 false (fun w' => specCountStable_no n k h w') (fun w' => implCountStable_no n k h w')
end Go.Proofs.Ytfhohmahckjpeaa
