import Derived.Test.YtgbfpmfennmebaaSh
import Derived.Test.YtgbfpmfennmebaaZj
import Derived.Test.YtgbfpmfennmebaaFc
namespace Go.Proofs.Ytgbfpmfennmebaa
open Go.RowKit
set_option maxRecDepth 4000
/-- The sum of the signs of the cells of a list. -/
def dsm (xs : List Int) (n : Nat) (L : List Int) : Int := L.foldl (fun s k => s + signB xs n k.toNat) 0
theorem dsm_snoc (xs : List Int) (n : Nat) (L : List Int) (k : Nat) : dsm xs n (L ++ [(k : Int)]) = dsm xs n L + signB xs n k := by
  simp [dsm, List.foldl_append]
theorem signB_pm (xs : List Int) (n k : Nat) : -1 ≤ signB xs n k ∧ signB xs n k ≤ 1 := by
  have := sgl_pm 1 (.inl rfl) xs (cpairs n k)
  unfold signB
  split <;> omega
theorem flt_at (f : Nat → Bool) (m t : Nat) (ht : t < (flt f m).length) : ∃ k : Nat, (flt f m).getD t 0 = (k : Int) ∧ k < m := by
  have hm : (flt f m).getD t 0 ∈ flt f m := by
    rw [List.getD_eq_getElem?_getD, List.getElem?_eq_getElem ht]
    exact List.getElem_mem ht
  simp only [flt, List.mem_map, List.mem_filter, List.mem_range] at hm
  obtain ⟨k, ⟨hk, -⟩, e⟩ := hm
  exact ⟨k, e.symm, hk⟩
theorem dsm_bd (xs : List Int) (n : Nat) (f : Nat → Bool) (m : Nat) : ∀ t, t ≤ (flt f m).length → -(t : Int) ≤ dsm xs n ((flt f m).take t) ∧ dsm xs n ((flt f m).take t) ≤ (t : Int)
  | 0, _ => by simp [dsm]
  | t + 1, ht => by
    have ih := dsm_bd xs n f m t (by omega)
    obtain ⟨k, e, -⟩ := flt_at f m t (by omega)
    rw [List.getD_eq_getElem?_getD, List.getElem?_eq_getElem (by omega)] at e
    simp only [Option.getD_some] at e
    rw [List.take_add_one, List.getElem?_eq_getElem (by omega), e]
    have h2 := signB_pm xs n k
    have h3 := dsm_snoc xs n ((flt f m).take t) k
    simp only [Option.toList_some]
    rw [h3]
    omega
def okDegreeOf (n : Int) (xs : List Int) : Bool := labB n xs
def valDegreeOf (n : Int) (xs : List Int) : Int := if labB n xs then dsm xs n.toNat (flt (fullB xs n.toNat) (ci n.toNat).length) else 0
set_option maxHeartbeats 1600000 in
theorem specDegreeOf (n : Int) (xs : List Int) (a : Option Addr) (b len cap : Nat) (w : World) (hn : xs.length = len) (h : Rd w a b 0 xs) (hb0 : len = 0 ∨ b < w.heap.size) :
    Calls Try.prog 13 #[.int .i64 n, .slice a len cap] w fun e w' => e = .returned (.tuple #[.int .i64 (valDegreeOf n xs), .bool (okDegreeOf n xs)]) ∧ Below w.heap.size w w' := by
  have HM := Lib.hid (meLabels_any n xs a b 0 len cap w hn h)
  cases hL : labB n xs
  · have H1 : Hid (valDegreeOf n xs = 0 ∧ okDegreeOf n xs = false) := Lib.hid (by simp [valDegreeOf, okDegreeOf, hL])
    rw [hL] at HM
    rw [H1.out.1, H1.out.2]
    clear hL h
    go_enter Try.func13, Try.ntmps13
    go_wp2_with fail
    refine HM.out.mono ?_
    rintro e w1 ⟨rfl, rfl⟩
    go_wp2_with fail
    go_ret2
    exact ⟨rfl, Below.refl _ _⟩
  · obtain ⟨n, rfl⟩ := labB_nat hL
    obtain ⟨h1, h2, hl, hA⟩ := labB_yes hL
    have hcn := (Pr.cnt_le n (by omega)).1
    have he := Lib.hid (ci_eq n (by omega) h1)
    have hbd := ci_bd n h2
    have H1 : Hid (valDegreeOf n xs = dsm xs n (flt (fullB xs n) (ci n).length) ∧ okDegreeOf n xs = true) := Lib.hid (by simp [valDegreeOf, okDegreeOf, hL])
    have HD := Lib.hid (fun k (hk : k < (ci n).length) w' a' b' cap' (hb : Below w.heap.size w w') (hr : Rd w' a' b' 0 ((cl n k).map (fun (i : Nat) => (i : Int)))) => doFull_any xs (cl n k) a a' b b' len 3 cap cap' w' hn rfl (h.later hn hb0 hb) hr hA (cl_in n k xs hL hk) (by simp [cl]) (by omega))
    have HSG := Lib.hid (fun k (hk : k < (ci n).length) w' a' b' cap' (hb : Below w.heap.size w w') (hr : Rd w' a' b' 0 ((cl n k).map (fun (i : Nat) => (i : Int)))) (hx : a' = none ∨ b' < w'.heap.size) (h3 : 3 ≤ cap') (hm : cap' ≤ maxLen) =>
      doSign_any n xs (cl n k) a a' b b' len 3 cap cap' w' h1 h2 hn rfl (h.later hn hb0 hb) hr (lt_later hb0 hb) hx h3 (cl_in n k xs hL hk) (by omega) (by simp [cl]) hm)
    have HBD := Lib.hid (fun m => dsm_bd xs n (fullB xs n) m _ (Nat.le_refl _))
    rw [hL] at HM
    rw [H1.out.1, H1.out.2]
    clear hL h hA hl hn hb0
    go_enter Try.func13, Try.ntmps13
    go_wp2_with fail
    refine HM.out.mono ?_
    rintro e w1 ⟨rfl, rfl⟩
    go_wp2_with fail
    refine (meCells_any n h1 h2 _).mono ?_
    rintro e w1 ⟨v, rfl, hc1, hb1⟩
    rw [← he.out] at hc1
    obtain ⟨sa, m, sc, rfl⟩ := cells_shape hc1
    obtain ⟨rfl, -, -⟩ := cells_row hc1
    go_wp2_with fail
    go_loopw [6, 16] (fun v6 v16 wr => ∃ k : Nat, k ≤ (ci n).length ∧ v16 = .int .i64 k ∧ v6 = .int .i64 (dsm xs n (flt (fullB xs n) k)) ∧ Below w1.heap.size w1 wr) (fun _ v16 _ => (ci n).length - (intOf v16).toNat)
    case atStart => exact ⟨0, Nat.zero_le _, rfl, rfl, Below.refl _ _⟩
    case round =>
      obtain ⟨k, hk, rfl, rfl, hb⟩ := hrel
      have hsb := HBD.out k
      rw [List.take_length] at hsb
      have hfl := flt_len (fullB xs n) k
      by_cases hlt : k < (ci n).length
      · obtain ⟨-, g, ra, rc, rb, rfl, c1, hrd, hx, h3, hm⟩ := spec_cell3 h2 (cells_now hc1 hb) hlt
        have hBk := bnext hb1 hb
        have HX := Lib.hid (HD.out k hlt wr ra rb rc hBk hrd)
        have HSX := Lib.hid (HSG.out k hlt wr ra rb rc hBk hrd hx h3 hm)
        have HSB : Hid ((if upS n (cl n k) then sgl 1 xs (prs (cl n k) (cl n k).length) else -(sgl 1 xs (prs (cl n k) (cl n k).length))) = signB xs n k) := Lib.hid rfl
        have HF : Hid (fullB xs n k = (sn xs (cl n k) (cl n k).length == 7)) := Lib.hid rfl
        have hki : (k : Int) < ((ci n).length : Int) := by omega
        have hpm := signB_pm xs n k
        cases hN : fullB xs n k
        · have e : Hid (dsm xs n (flt (fullB xs n) (k + 1)) = dsm xs n (flt (fullB xs n) k)) := Lib.hid (by rw [flt_no _ _ hN])
          rw [hN] at HF
          clear hN hrd hx
          generalize dsm xs n (flt (fullB xs n) k) = s at hsb e ⊢
          go_wp2_with fail
          refine HX.out.mono ?_
          rintro e2 w2 ⟨rfl, rfl⟩
          rw [← HF.out]
          go_wp2_with fail
          go_roundw
          case rel => exact ⟨k + 1, by omega, by go_num, by rw [e.out], hb⟩
          case measure => simp [intOf]; omega
        · have e : Hid (dsm xs n (flt (fullB xs n) (k + 1)) = dsm xs n (flt (fullB xs n) k) + signB xs n k) := Lib.hid (by rw [flt_yes _ _ hN, dsm_snoc])
          rw [hN] at HF
          clear hN hrd hx
          generalize dsm xs n (flt (fullB xs n) k) = s at hsb e ⊢
          rw [HSB.out] at HSX
          generalize signB xs n k = t at hpm e HSX
          go_wp2_with fail
          refine HX.out.mono ?_
          rintro e2 w2 ⟨rfl, rfl⟩
          rw [← HF.out]
          go_wp2_with fail
          refine HSX.out.mono ?_
          rintro e2 w2 ⟨rfl, hb2⟩
          go_wp2_with fail
          go_roundw
          case rel => exact ⟨k + 1, by omega, by go_num, by rw [e.out], bnext hb hb2⟩
          case measure => simp [intOf]; omega
      · have hk2 : k = (ci n).length := by omega
        rw [hk2]
        go_wp2_with fail
        go_ret2
        exact ⟨rfl, bnext hb1 hb⟩
end Go.Proofs.Ytgbfpmfennmebaa
