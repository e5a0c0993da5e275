import Derived.Test.YtlkgmnmnlfaopaaS1
import Derived.Test.YtlkgmnmnlfaopaaIx
namespace Go.Proofs.Ytlkgmnmnlfaopaa
open Go.RowKit
set_option maxRecDepth 4000
set_option maxHeartbeats 800000 in
theorem fxPoint_any (n : Nat) (h2 : n ≤ 5) (p : List Int) (a : Option Addr) (cap B : Nat) (w : World) (h : RdS w B a p) :
    Calls Try.prog 86 #[.int .i64 n, .slice a p.length cap] w fun e w' => e = .returned (.bool (ptI (3 * (n : Int)) p)) ∧ Same w w' := by
  have hall : ∀ m, Calls Try.prog 66 #[.slice a p.length cap, .int .i64 0, .int .i64 (3 * (n : Int))] (w.drewN m) fun e w' => e = .returned (.bool (allB 0 (3 * (n : Int)) p)) ∧ w.drewN m = w' := fun m => l1All_rd p a cap B 0 (3 * (n : Int)) _ (rds_same h ((Same.refl w).drewN m))
  obtain ⟨b, off, hr, -⟩ := h
  by_cases hl : p.length = 3
  · have hne : ((p.length : Int) == 3) = true := by rw [hl]; rfl
    cases hA : allB 0 (3 * (n : Int)) p
    · have HF : Hid (ptI (3 * (n : Int)) p = false) := Lib.hid (by simp [ptI, hA])
      rw [hA] at hall
      have HAll := Lib.hid hall
      clear hall hA hr hl
      go_enter Try.func86, Try.ntmps86
      go_wp2_with fail
      go_quiet (first | (go_at_call 66; exact Calls.quiet_of_same (flip (HAll.out _))))
      go_wp2
      go_ret
      exact ⟨ret_bool HF.out.symm, (Same.refl _).drewN _⟩
    · have HV : Hid (ptI (3 * (n : Int)) p = (p.getD 0 0 + p.getD 1 0 + p.getD 2 0 == 3 * (n : Int))) := Lib.hid (by simp [ptI, hA, hl])
      rw [hA] at hall
      have HAll := Lib.hid hall
      obtain ⟨ha, c0⟩ := hr.2 0 (by omega)
      obtain ⟨-, c1⟩ := hr.2 1 (by omega)
      obtain ⟨-, c2⟩ := hr.2 2 (by omega)
      have b0 := allB_at hA 0 (by omega)
      have b1 := allB_at hA 1 (by omega)
      have b2 := allB_at hA 2 (by omega)
      rw [Nat.add_zero] at c0
      subst ha
      rw [hl] at HAll ⊢
      clear hall hA hr hl hne
      generalize p.getD 0 0 = x at *
      generalize p.getD 1 0 = y at *
      generalize p.getD 2 0 = z at *
      go_enter Try.func86, Try.ntmps86
      go_wp2_with fail
      go_quiet (first | (go_at_call 66; exact Calls.quiet_of_same (flip (HAll.out _))))
      go_wp2
      go_ret
      exact ⟨ret_bool HV.out.symm, (Same.refl _).drewN _⟩
  · have hne : ((p.length : Int) == 3) = false := by simp; omega
    have HF : Hid (ptI (3 * (n : Int)) p = false) := Lib.hid (by simp [ptI, hl])
    clear hall hr hl
    go_enter Try.func86, Try.ntmps86
    go_wp2_with fail
    go_quiet (fail)
    go_wp2
    go_ret
    exact ⟨ret_bool HF.out.symm, (Same.refl _).drewN _⟩
set_option maxHeartbeats 400000 in
theorem fxSide_yes (n : Int) (h : 1 ≤ n ∧ n ≤ 5) (w : World) : Calls Try.prog 85 #[.int .i64 n] w fun e w' => e = .returned (.bool true) ∧ w = w' := by
  go_enter Try.func85, Try.ntmps85
  go_wp2_with fail
  refine (l1In_yes n 1 5 h _).mono ?_
  rintro e w' ⟨rfl, rfl⟩
  go_wp2_with fail
  go_ret
  exact ⟨rfl, rfl⟩
set_option maxHeartbeats 400000 in
theorem fxSide_no (n : Int) (h : ¬ (1 ≤ n ∧ n ≤ 5)) (w : World) : Calls Try.prog 85 #[.int .i64 n] w fun e w' => e = .returned (.bool false) ∧ w = w' := by
  have H := Lib.hid h
  clear h
  go_enter Try.func85, Try.ntmps85
  go_wp2_with fail
  refine (l1In_no n 1 5 H.out _).mono ?_
  rintro e w' ⟨rfl, rfl⟩
  go_wp2_with fail
  go_ret
  exact ⟨rfl, rfl⟩
set_option maxHeartbeats 800000 in
theorem fxGood_side (n : Nat) (h1 : 1 ≤ n) (h2 : n ≤ 5) (im : List (List Int)) (a : Option Addr) (cap B : Nat) (w : World) (h : RdSS w B a im) :
    Calls Try.prog 93 #[.int .i64 n, .slice a im.length cap] w fun e w' => e = .returned (.bool (imB n im)) ∧ Same w w' := by
  have hcn := (Pr.cnt_le n (by omega)).1
  obtain ⟨hm, b, off, hc⟩ := h
  unfold maxLen at hm
  have HC := Lib.hid hc
  clear hc
  by_cases h3 : im.length = Pr.cnt n
  · have hne : ((im.length : Int) != ((Pr.cnt n : Nat) : Int)) = false := by rw [h3]; simp
    have HL := Lib.hid h3
    have hl3 : im.length ≤ 45 := by omega
    clear h3
    go_enter Try.func93, Try.ntmps93
    go_wp2_with fail
    refine (fxSide_yes n (by omega) _).mono ?_
    rintro e w' ⟨rfl, rfl⟩
    go_wp2_with fail
    refine (meCount_any n (by omega) _).mono ?_
    rintro e w' ⟨rfl, rfl⟩
    go_wp2_with fail
    go_loopw [19] (fun vk wr => ∃ k : Nat, k ≤ im.length ∧ vk = .int .i64 k ∧ Same w wr ∧ ∀ j, j < k → ptI (3 * (n : Int)) (im.getD j []) = true) (fun vk _ => im.length - (intOf vk).toNat)
    case atStart => exact ⟨0, Nat.zero_le _, rfl, Same.refl _, by omega⟩
    case round =>
      obtain ⟨k, hk, rfl, hs, hall⟩ := hrel
      have HA := Lib.hid hall
      clear hall
      by_cases hlt : k < im.length
      · obtain ⟨ha, hbl, ra, rc, c1, hr⟩ := HC.out k hlt
        subst ha
        have c1 := (hs.cell ⟨b, off + k, none⟩).trans c1
        have hi : (k : Int) < (im.length : Int) := by omega
        have HR := Lib.hid (rds_same hr hs)
        have HNO := Lib.hid (imB_no n im k hlt)
        have HX : Hid (ptI (3 * (n : Int)) (im.getD k []) = true → ∀ j, j < k + 1 → ptI (3 * (n : Int)) (im.getD j []) = true) := Lib.hid (fun hx j hj => by
          by_cases e : j = k
          · rw [e]; exact hx
          · exact HA.out j (by omega))
        have HM : Hid ((im.getD k []).length ≤ maxLen) := Lib.hid (rds_max hr)
        clear hr HA
        generalize im.getD k [] = t at *
        go_wp2_with fail
        refine (fxPoint_any n h2 t ra rc B _ HR.out).mono ?_
        rintro e w' ⟨rfl, hs2⟩
        have hs3 := hs.trans hs2
        cases hA : ptI (3 * (n : Int)) t
        · go_wp2_with fail
          go_ret
          exact ⟨ret_bool (HNO.out hA).symm, hs3⟩
        · have HAl := Lib.hid hA
          clear hA
          go_wp2_with fail
          go_roundw
          case rel => exact ⟨k + 1, by omega, by go_num, hs3, HX.out HAl.out⟩
          case measure => simp [intOf]; omega
      · have hk2 : im.length = k := by omega
        have hT := Lib.hid (imB_yes n im HL.out (fun j hj => HA.out j (by omega)))
        clear hk2
        go_wp2_with fail
        go_ret
        exact ⟨ret_bool hT.out.symm, hs⟩
  · have hne : ((im.length : Int) != ((Pr.cnt n : Nat) : Int)) = true := by simp; omega
    have hF := Lib.hid (imB_len n im h3)
    clear h3
    go_enter Try.func93, Try.ntmps93
    go_wp2_with fail
    refine (fxSide_yes n (by omega) _).mono ?_
    rintro e w' ⟨rfl, rfl⟩
    go_wp2_with fail
    refine (meCount_any n (by omega) _).mono ?_
    rintro e w' ⟨rfl, rfl⟩
    go_wp2_with fail
    go_ret
    exact ⟨ret_bool hF.out.symm, Same.refl _⟩
set_option maxHeartbeats 400000 in
theorem fxGood_any (n : Int) (im : List (List Int)) (a : Option Addr) (cap B : Nat) (w : World) (h : RdSS w B a im) :
    Calls Try.prog 93 #[.int .i64 n, .slice a im.length cap] w fun e w' => e = .returned (.bool (imgB n im)) ∧ Same w w' := by
  by_cases hn : 1 ≤ n ∧ n ≤ 5
  · obtain ⟨n, rfl⟩ := Int.eq_ofNat_of_zero_le (show 0 ≤ n by omega)
    rw [imgB_nat n (by omega) (by omega)]
    exact fxGood_side n (by omega) (by omega) im a cap B w h
  · have e : imgB n im = false := by simp [imgB]; omega
    rw [e]
    have HN := Lib.hid hn
    clear hn e h
    go_enter Try.func93, Try.ntmps93
    go_wp2_with fail
    refine (fxSide_no n HN.out _).mono ?_
    rintro e w' ⟨rfl, rfl⟩
    go_wp2_with fail
    go_ret
    exact ⟨rfl, Same.refl _⟩
theorem rdss_same {w w' : World} {B : Nat} {a : Option Addr} {cs : List (List Int)} (h : RdSS w B a cs) (hs : Same w w') : RdSS w' B a cs := by
  obtain ⟨hm, b, off, h⟩ := h
  refine ⟨hm, b, off, fun k hk => ?_⟩
  obtain ⟨ha, hb, ra, rc, hc, hr⟩ := h k hk
  exact ⟨ha, hb, ra, rc, (hs.cell _).trans hc, rds_same hr hs⟩
/-- Whether there are images and a cell. -/
def okM (n : Int) (im : List (List Int)) (c : Int) : Bool := imgB n im && decide (0 ≤ c ∧ c < ((ci n.toNat).length : Nat))
theorem okM_yes {n c : Int} {im : List (List Int)} (h : okM n im c = true) : ∃ n' c' : Nat, n = n' ∧ c = c' ∧ 1 ≤ n' ∧ n' ≤ 5 ∧ imB n' im = true ∧ c' < (ci n').length := by
  simp only [okM, Bool.and_eq_true, decide_eq_true_eq] at h
  obtain ⟨hL, h3, h4⟩ := h
  obtain ⟨n, rfl, h1, h2, hy⟩ := imgB_yes hL
  obtain ⟨c, rfl⟩ := Int.eq_ofNat_of_zero_le h3
  exact ⟨n, c, rfl, rfl, h1, h2, hy, by simpa using h4⟩
end Go.Proofs.Ytlkgmnmnlfaopaa
