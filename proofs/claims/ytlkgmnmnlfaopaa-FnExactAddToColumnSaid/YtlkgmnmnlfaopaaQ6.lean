import Derived.LoopN
import Derived.BigRegion
import Derived.BigQuiet
import Derived.Test.YtlkgmnmnlfaopaaQ1
namespace Go.Proofs.Ytlkgmnmnlfaopaa
open Go.RowKit
set_option maxRecDepth 4000
/-- Pays: one to three rows of one to three numbers each, of at most 9. -/
def rowB (n : Nat) (r : List Int) : Bool := decide (r.length = n) && allB (-9) 9 r
def gB (rs : List (List Int)) : Bool := decide (1 ≤ rs.length ∧ rs.length ≤ 3) && decide (1 ≤ (rs.getD 0 []).length ∧ (rs.getD 0 []).length ≤ 3) && rs.all (rowB (rs.getD 0 []).length)
theorem getD_at {α : Type} (l : List α) (k : Nat) (h : k < l.length) (d : α) : l.getD k d = l[k] := by simp [List.getD, h]
theorem gB_row_no (rs : List (List Int)) (k : Nat) (hk : k < rs.length) (h : rowB (rs.getD 0 []).length (rs.getD k []) = false) : gB rs = false := by
  have e : rs.all (rowB (rs.getD 0 []).length) = false := by
    rw [List.all_eq_false]
    refine ⟨rs[k], List.getElem_mem hk, ?_⟩
    rw [getD_at rs k hk] at h
    simpa using h
  simp only [gB, e, Bool.and_false]
theorem gB_mk (rs : List (List Int)) (h1 : 1 ≤ rs.length) (h2 : rs.length ≤ 3) (h3 : 1 ≤ (rs.getD 0 []).length) (h4 : (rs.getD 0 []).length ≤ 3) (h : ∀ k, k < rs.length → rowB (rs.getD 0 []).length (rs.getD k []) = true) : gB rs = true := by
  have e : rs.all (rowB (rs.getD 0 []).length) = true := by
    rw [List.all_eq_true]
    intro x hx
    obtain ⟨k, hk, rfl⟩ := List.mem_iff_getElem.1 hx
    have := h k hk
    rwa [getD_at rs k hk] at this
  simp only [gB, e, Bool.and_true, Bool.and_eq_true, decide_eq_true_eq]
  exact ⟨⟨h1, h2⟩, h3, h4⟩
structure GOk (rs : List (List Int)) (m n : Nat) : Prop where
  rows : rs.length = m
  m1 : 1 ≤ m
  m3 : m ≤ 3
  n1 : 1 ≤ n
  n3 : n ≤ 3
  len : ∀ k, k < m → (rs.getD k []).length = n
  bd : ∀ k, k < m → ∀ j, j < n → -9 ≤ (rs.getD k []).getD j 0 ∧ (rs.getD k []).getD j 0 ≤ 9
theorem gB_ok {rs : List (List Int)} (h : gB rs = true) : GOk rs rs.length (rs.getD 0 []).length := by
  simp only [gB, Bool.and_eq_true, decide_eq_true_eq] at h
  obtain ⟨⟨⟨h1, h2⟩, h3, h4⟩, h5⟩ := h
  rw [List.all_eq_true] at h5
  have hr : ∀ k, k < rs.length → rowB (rs.getD 0 []).length (rs.getD k []) = true := fun k hk => by
    rw [getD_at rs k hk]
    exact h5 _ (List.getElem_mem hk)
  refine ⟨rfl, h1, h2, h3, h4, fun k hk => ?_, fun k hk j hj => ?_⟩
  · have := hr k hk
    simp only [rowB, Bool.and_eq_true, decide_eq_true_eq] at this
    exact this.1
  · have := hr k hk
    simp only [rowB, Bool.and_eq_true, decide_eq_true_eq] at this
    exact allB_at this.2 j (by omega)
theorem gB_len_no (rs : List (List Int)) (h : ¬ (1 ≤ rs.length ∧ rs.length ≤ 3)) : gB rs = false := by
  simp only [gB, decide_eq_false h, Bool.false_and]
theorem gB_row0_no (rs : List (List Int)) (h : ¬ (1 ≤ (rs.getD 0 []).length ∧ (rs.getD 0 []).length ≤ 3)) : gB rs = false := by
  simp only [gB, decide_eq_false h, Bool.false_and, Bool.and_false]
theorem rd_len {w : World} {B : Nat} {a : Option Addr} {xs : List Int} (h : RdS w B a xs) : xs.length ≤ maxLen := by
  obtain ⟨b, off, h, -⟩ := h
  exact h.1
theorem isCount_yes (n : Int) (h : 1 ≤ n ∧ n ≤ 3) (w : World) : Calls Try.prog 57 #[.int .i64 n] w fun e w' => e = .returned (.bool true) ∧ w = w' := by
  obtain ⟨h1, h2⟩ := h
  go_enter Try.func57, Try.ntmps57
  go_wp2_with fail
  go_ret
  exact ⟨ret_bool (by simp), rfl⟩
theorem isCount_no (n : Int) (h : ¬ (1 ≤ n ∧ n ≤ 3)) (w : World) : Calls Try.prog 57 #[.int .i64 n] w fun e w' => e = .returned (.bool false) ∧ w = w' := by
  by_cases h1 : 1 ≤ n
  · have h2 : ¬ n ≤ 3 := by omega
    clear h
    go_enter Try.func57, Try.ntmps57
    go_wp2_with fail
    go_ret
    exact ⟨ret_bool (by simp), rfl⟩
  · clear h
    go_enter Try.func57, Try.ntmps57
    go_wp2_with fail
    go_ret
    exact ⟨ret_bool rfl, rfl⟩
set_option maxHeartbeats 1600000 in
theorem gmRows_any (rs : List (List Int)) (a : Option Addr) (cap B : Nat) (w : World) (h : RdSS w B a rs) :
    Calls Try.prog 83 #[.slice a rs.length cap] w fun e w' => e = .returned (.bool (gB rs)) ∧ w = w' := by
  obtain ⟨hm, b, off, hc⟩ := h
  unfold maxLen at hm
  have HC := Lib.hid hc
  by_cases hl : 1 ≤ rs.length ∧ rs.length ≤ 3
  · obtain ⟨ha, -, ra0, rc0, c0, hr0⟩ := hc 0 (by omega)
    subst ha
    have hm0 := rd_len hr0
    unfold maxLen at hm0
    rw [Nat.add_zero] at c0
    have hli : 1 ≤ (rs.length : Int) ∧ (rs.length : Int) ≤ 3 := by omega
    have HLI := Lib.hid (l1In_yes rs.length 1 3 hli)
    obtain ⟨n0, hn0⟩ : ∃ n0, n0 = (rs.getD 0 []).length := ⟨_, rfl⟩
    rw [← hn0] at c0 hm0
    by_cases h0 : 1 ≤ n0 ∧ n0 ≤ 3
    · have HL0 := Lib.hid (l1In_yes n0 1 3 (by omega))
      have HNO : Hid (∀ k, k < rs.length → rowB n0 (rs.getD k []) = false → gB rs = false) := Lib.hid (by rw [hn0]; exact gB_row_no rs)
      have HYES : Hid ((∀ k, k < rs.length → rowB n0 (rs.getD k []) = true) → gB rs = true) := Lib.hid (by rw [hn0] at h0 ⊢; exact gB_mk rs hl.1 hl.2 h0.1 h0.2)
      have hl2 : rs.length ≤ 3 := hl.2
      clear hc hr0 hn0
      go_enter Try.func83, Try.ntmps83
      go_wp2_with fail
      refine (HLI.out _).mono ?_
      rintro e w' ⟨rfl, rfl⟩
      go_wp2_with fail
      refine (HL0.out _).mono ?_
      rintro e w' ⟨rfl, rfl⟩
      go_wp2_with fail
      go_loop [19] (fun v19 => ∃ k : Nat, k ≤ rs.length ∧ v19 = .int .i64 k ∧ ∀ j, j < k → rowB n0 (rs.getD j []) = true) (fun v19 => rs.length - (intOf v19).toNat)
      case atStart => exact ⟨0, by omega, rfl, by omega⟩
      case round =>
        obtain ⟨k, hk, rfl, hall⟩ := hrel
        have HA := Lib.hid hall
        clear hall
        by_cases hlt : k < rs.length
        · obtain ⟨-, -, ra, rc, ck, hr⟩ := HC.out k hlt
          have hki : (k : Int) < (rs.length : Int) := by omega
          have HNk := Lib.hid (HNO.out k hlt)
          have HX : Hid (rowB n0 (rs.getD k []) = true → ∀ j, j < k + 1 → rowB n0 (rs.getD j []) = true) := Lib.hid (fun hx j hj => by
            by_cases e : j = k
            · rw [e]; exact hx
            · exact HA.out j (by omega))
          have HAL := Lib.hid (l1All_rd (rs.getD k []) ra rc B (-9) 9 w hr)
          have hmk := rd_len hr
          unfold maxLen at hmk
          have HRB : Hid (rowB n0 (rs.getD k []) = (decide ((rs.getD k []).length = n0) && allB (-9) 9 (rs.getD k []))) := Lib.hid rfl
          clear hr
          generalize rs.getD k [] = r at *
          by_cases hn : r.length = n0
          · have hne : ((r.length : Int) != (n0 : Int)) = false := by simp; omega
            cases hA : allB (-9) 9 r
            · have HF : Hid (gB rs = false) := Lib.hid (HNk.out (by rw [HRB.out, hA, Bool.and_false]))
              rw [hA] at HAL
              clear hA hn
              go_wp2_with fail
              refine HAL.out.mono ?_
              rintro e w' ⟨rfl, rfl⟩
              go_wp2_with fail
              go_ret
              exact ⟨ret_bool HF.out.symm, rfl⟩
            · have HT := Lib.hid (HX.out (by rw [HRB.out, hA, hn]; simp))
              rw [hA] at HAL
              clear hA hn
              go_wp2_with fail
              refine HAL.out.mono ?_
              rintro e w' ⟨rfl, rfl⟩
              go_wp2_with fail
              go_round
              case rel => exact ⟨k + 1, by omega, by go_num, HT.out⟩
              case measure => simp [intOf]; omega
          · have hne : ((r.length : Int) != (n0 : Int)) = true := by simp; omega
            have HF : Hid (gB rs = false) := Lib.hid (HNk.out (by rw [HRB.out]; simp [hn]))
            clear hn
            go_wp2_with fail
            go_ret
            exact ⟨ret_bool HF.out.symm, rfl⟩
        · have HT := Lib.hid (HYES.out (fun j hj => HA.out j (by omega)))
          go_wp2_with fail
          go_ret
          exact ⟨ret_bool HT.out.symm, rfl⟩
    · have HL0 := Lib.hid (l1In_no n0 1 3 (by omega))
      have HF : Hid (gB rs = false) := Lib.hid (gB_row0_no rs (by rw [← hn0]; exact h0))
      have hl2 : rs.length ≤ 3 := hl.2
      clear hc hr0 hn0 h0
      go_enter Try.func83, Try.ntmps83
      go_wp2_with fail
      refine (HLI.out _).mono ?_
      rintro e w' ⟨rfl, rfl⟩
      go_wp2_with fail
      refine (HL0.out _).mono ?_
      rintro e w' ⟨rfl, rfl⟩
      go_wp2_with fail
      go_ret
      exact ⟨ret_bool HF.out.symm, rfl⟩
  · have HLI := Lib.hid (l1In_no rs.length 1 3 (by omega))
    have HF : Hid (gB rs = false) := Lib.hid (gB_len_no rs hl)
    clear hc hl
    go_enter Try.func83, Try.ntmps83
    go_wp2_with fail
    refine (HLI.out _).mono ?_
    rintro e w' ⟨rfl, rfl⟩
    go_wp2_with fail
    go_ret
    exact ⟨ret_bool HF.out.symm, rfl⟩
end Go.Proofs.Ytlkgmnmnlfaopaa
