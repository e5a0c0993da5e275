import Derived.Test.YtncpnkcdjfohgaaDoorKb
namespace Go.Proofs.YtncpnkcdjfohgaaDoor
open Go.RowKit
set_option maxRecDepth 4000
/-- A list of so many numbers, all within 0 and hi. -/
def okT (m : Nat) (hi : Int) (t : List Int) : Bool := decide (t.length = m) && allB 0 hi t
/-- Three such lists. -/
def rowsB (m : Nat) (hi : Int) (ts : List (List Int)) : Bool := decide (ts.length = 3) && ts.all (okT m hi)
theorem rowsB_no (m : Nat) (hi : Int) (ts : List (List Int)) (k : Nat) (hk : k < ts.length) (h : okT m hi (ts.getD k []) = false) : rowsB m hi ts = false := by
  rw [Bool.eq_false_iff]
  intro hh
  simp only [rowsB, Bool.and_eq_true, List.all_eq_true] at hh
  have := hh.2 (ts.getD k []) (by simp [List.getD, List.getElem?_eq_getElem hk])
  rw [this] at h; cases h
theorem rowsB_len (m : Nat) (hi : Int) (ts : List (List Int)) (h : ts.length ≠ 3) : rowsB m hi ts = false := by
  simp [rowsB, h]
theorem rowsB_yes (m : Nat) (hi : Int) (ts : List (List Int)) (hl : ts.length = 3) (h : ∀ k, k < ts.length → okT m hi (ts.getD k []) = true) : rowsB m hi ts = true := by
  simp only [rowsB, Bool.and_eq_true, List.all_eq_true, decide_eq_true_eq]
  refine ⟨hl, fun t ht => ?_⟩
  obtain ⟨k, hk, rfl⟩ := List.getElem_of_mem ht
  have := h k hk
  simpa [List.getD, List.getElem?_eq_getElem hk] using this
theorem rowsB_at {m : Nat} {hi : Int} {ts : List (List Int)} (h : rowsB m hi ts = true) : ts.length = 3 ∧ ∀ k, k < ts.length → (ts.getD k []).length = m ∧ allB 0 hi (ts.getD k []) = true := by
  simp only [rowsB, Bool.and_eq_true, List.all_eq_true, decide_eq_true_eq] at h
  refine ⟨h.1, fun k hk => ?_⟩
  have := h.2 (ts.getD k []) (by simp [List.getD, List.getElem?_eq_getElem hk])
  simpa [okT] using this
/-- Tastes for n. -/
def tstB (n : Int) (ts : List (List Int)) : Bool := decide (1 ≤ n ∧ n ≤ 8) && rowsB n.toNat 9 ts
theorem rds_same {w w' : World} {B : Nat} {a : Option Addr} {xs : List Int} (h : RdS w B a xs) (hs : Same w w') : RdS w' B a xs := by
  obtain ⟨b, off, h, h2⟩ := h
  exact ⟨b, off, h.same hs, h2⟩
theorem l1All_rd (xs : List Int) (a : Option Addr) (cap B : Nat) (lo hi : Int) (w : World) (h : RdS w B a xs) :
    Calls Tryd.prog 80 #[.slice a xs.length cap, .int .i64 lo, .int .i64 hi] w fun e w' => e = .returned (.bool (allB lo hi xs)) ∧ w = w' := by
  obtain ⟨b, off, h, -⟩ := h
  exact l1All_any xs a b off _ cap lo hi w rfl h
set_option maxHeartbeats 800000 in
theorem ckTastes_side (n : Nat) (h1 : 1 ≤ n) (h2 : n ≤ 8) (ts : List (List Int)) (a : Option Addr) (cap B : Nat) (w : World) (h : RdSS w B a ts) :
    Calls Tryd.prog 40 #[.int .i64 n, .slice a ts.length cap] w fun e w' => e = .returned (.bool (rowsB n 9 ts)) ∧ w = w' := by
  obtain ⟨hm, b, off, hc⟩ := h
  unfold maxLen at hm
  have HC := Lib.hid hc
  clear hc
  by_cases h3 : ts.length = 3
  · have hne : ((ts.length : Int) != 3) = false := by rw [h3]; rfl
    have HL := Lib.hid h3
    have hl3 : ts.length ≤ 3 := by omega
    clear h3
    go_enter Tryd.func40, Tryd.ntmps40
    go_wp2_with fail
    refine (meSide_yes n h1 h2 _).mono ?_
    rintro e w' ⟨rfl, rfl⟩
    go_wp2_with fail
    go_loop [17] (fun vk => ∃ k : Nat, k ≤ ts.length ∧ vk = .int .i64 k ∧ ∀ j, j < k → okT n 9 (ts.getD j []) = true) (fun vk => ts.length - (intOf vk).toNat)
    case atStart => exact ⟨0, Nat.zero_le _, rfl, by omega⟩
    case round =>
      obtain ⟨k, hk, rfl, hall⟩ := hrel
      have HA := Lib.hid hall
      clear hall
      by_cases hlt : k < ts.length
      · obtain ⟨ha, hbl, ra, rc, c1, hr⟩ := HC.out k hlt
        subst ha
        have hi : (k : Int) < (ts.length : Int) := by omega
        have HR := Lib.hid hr
        have HNO := Lib.hid (rowsB_no n 9 ts k hlt)
        have HX : Hid (okT n 9 (ts.getD k []) = true → ∀ j, j < k + 1 → okT n 9 (ts.getD j []) = true) := Lib.hid (fun hx j hj => by
          by_cases e : j = k
          · rw [e]; exact hx
          · exact HA.out j (by omega))
        have HM : Hid ((ts.getD k []).length ≤ maxLen) := Lib.hid (rds_max hr)
        clear hr HA
        generalize ts.getD k [] = t at *
        by_cases hln : t.length = n
        · have hne2 : ((t.length : Int) != (n : Int)) = false := by rw [hln]; simp
          have HLN := Lib.hid hln
          clear hln
          go_wp2_with fail
          refine (l1All_rd t ra rc B 0 9 w HR.out).mono ?_
          rintro e w' ⟨rfl, rfl⟩
          cases hA : allB 0 9 t
          · go_wp2_with fail
            go_ret
            exact ⟨ret_bool (HNO.out (by simp [okT, hA])).symm, rfl⟩
          · have HAl := Lib.hid hA
            clear hA
            go_wp2_with fail
            go_round
            case rel => exact ⟨k + 1, by omega, by go_num, HX.out (by simp [okT, HAl.out, HLN.out])⟩
            case measure => simp [intOf]; omega
        · have hne2 : ((t.length : Int) != (n : Int)) = true := by simp; omega
          have hF := Lib.hid (HNO.out (by simp [okT, hln]))
          clear hln HNO
          go_wp2_with fail
          go_ret
          exact ⟨ret_bool hF.out.symm, rfl⟩
      · have hk2 : ts.length = k := by omega
        have hT := Lib.hid (rowsB_yes n 9 ts HL.out (fun j hj => HA.out j (by omega)))
        clear hk2
        go_wp2_with fail
        go_ret
        exact ⟨ret_bool hT.out.symm, rfl⟩
  · have hne : ((ts.length : Int) != 3) = true := by simp; omega
    have hF := Lib.hid (rowsB_len n 9 ts h3)
    clear h3
    go_enter Tryd.func40, Tryd.ntmps40
    go_wp2_with fail
    refine (meSide_yes n h1 h2 _).mono ?_
    rintro e w' ⟨rfl, rfl⟩
    go_wp2_with fail
    go_ret
    exact ⟨ret_bool hF.out.symm, rfl⟩
set_option maxHeartbeats 800000 in
theorem ckTastes_any (n : Int) (ts : List (List Int)) (a : Option Addr) (cap B : Nat) (w : World) (h : RdSS w B a ts) :
    Calls Tryd.prog 40 #[.int .i64 n, .slice a ts.length cap] w fun e w' => e = .returned (.bool (tstB n ts)) ∧ w = w' := by
  by_cases hn : 1 ≤ n ∧ n ≤ 8
  · obtain ⟨n, rfl⟩ := Int.eq_ofNat_of_zero_le (show 0 ≤ n by omega)
    have e : tstB n ts = rowsB n 9 ts := by simp [tstB]; omega
    rw [e]
    exact ckTastes_side n (by omega) (by omega) ts a cap B w h
  · have e : tstB n ts = false := by simp [tstB]; omega
    rw [e]
    have HN := Lib.hid hn
    clear hn e h
    go_enter Tryd.func40, Tryd.ntmps40
    go_wp2_with fail
    refine (meSide_no n HN.out _).mono ?_
    rintro e w' ⟨rfl, rfl⟩
    go_wp2_with fail
    go_ret
    exact ⟨rfl, rfl⟩
end Go.Proofs.YtncpnkcdjfohgaaDoor
