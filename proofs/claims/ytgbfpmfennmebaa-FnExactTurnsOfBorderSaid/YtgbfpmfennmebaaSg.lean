import Derived.Test.YtgbfpmfennmebaaZj
import Derived.Test.YtgbfpmfennmebaaUl
namespace Go.Proofs.Ytgbfpmfennmebaa
open Go.RowKit
set_option maxRecDepth 4000
/-- The sign behind a list of pairs: turned at each pair in the wrong order. -/
def sgl (e : Int) (xs : List Int) (ps : List (Int × Int)) : Int := ps.foldl (fun s p => if xs.getD p.2.toNat 0 < xs.getD p.1.toNat 0 then -s else s) e
theorem sgl_snoc (e : Int) (xs : List Int) (ps : List (Int × Int)) (i j : Nat) : sgl e xs (ps ++ [((i : Int), (j : Int))]) = if xs.getD j 0 < xs.getD i 0 then -(sgl e xs ps) else sgl e xs ps := by
  simp [sgl, List.foldl_append]
theorem sgl_pm (e : Int) (he : e = 1 ∨ e = -1) (xs : List Int) (ps : List (Int × Int)) : sgl e xs ps = 1 ∨ sgl e xs ps = -1 := by
  induction ps generalizing e with
  | nil => exact he
  | cons p ps ih =>
    simp only [sgl, List.foldl_cons] at ih ⊢
    apply ih
    split <;> omega
theorem sgl_neg (e : Int) (xs : List Int) (ps : List (Int × Int)) : sgl (-e) xs ps = -(sgl e xs ps) := by
  induction ps generalizing e with
  | nil => rfl
  | cons p ps ih =>
    simp only [sgl, List.foldl_cons] at ih ⊢
    split
    · exact ih (-e)
    · exact ih e
set_option maxHeartbeats 3200000 in
theorem doSign_any (n : Nat) (xs : List Int) (c : List Nat) (a a' : Option Addr) (b b' len len' cap cap' : Nat) (w : World) (h1 : 1 ≤ n) (h2 : n ≤ 8) (hn : xs.length = len) (hc : c.length = len') (h : Rd w a b 0 xs) (h' : Rd w a' b' 0 (c.map (fun (i : Nat) => (i : Int)))) (hb0 : len = 0 ∨ b < w.heap.size) (hb0' : a' = none ∨ b' < w.heap.size) (hcap : len' ≤ cap') (hin : ∀ j, j < c.length → c.getD j 0 < xs.length) (h45 : xs.length ≤ 45) (hl : c.length ≤ 100) (hcm : cap' ≤ maxLen) :
    Calls Try.prog 31 #[.int .i64 n, .slice a len cap, .slice a' len' cap'] w fun e w' => e = .returned (.int .i64 (if upS n c then sgl 1 xs (prs c c.length) else -(sgl 1 xs (prs c c.length)))) ∧ Below w.heap.size w w' := by
  subst hc hn
  have HXR := Lib.hid (fun w' (hb : Below w.heap.size w w') => h.later rfl hb0 hb)
  have hub : ∀ j, c.getD j 0 < 45 := fun j => by
    by_cases hj : j < c.length
    · have := hin j hj; omega
    · rw [List.getD_eq_getElem?_getD, List.getElem?_eq_none (by omega)]; decide
  have HUP := Lib.hid (fun w' (hb : Below w.heap.size w w') => meUp_any n c h1 h2 hub (by omega) a' b' c.length cap' w' rfl (h'.below hb hb0') (hb0'.imp_right fun h => Nat.lt_of_lt_of_le h hb.size))
  have HR' := Lib.hid h'
  have HIN := Lib.hid hin
  have HEQ : Hid (∀ j, j < c.length → (c.map (fun (i : Nat) => (i : Int))).getD j 0 = ((c.getD j 0 : Nat) : Int)) := Lib.hid (fun j hj => by
    rw [List.getD_eq_getElem?_getD, List.getElem?_map, List.getD_eq_getElem?_getD, List.getElem?_eq_getElem hj]; rfl)
  have hcm' := hcm
  unfold maxLen at hcm'
  clear h h' hin hcm hub
  go_enter Try.func31, Try.ntmps31
  go_wp2_with fail
  go_loopw [7, 14] (fun v7 v14 wr => ∃ q : Nat, q ≤ c.length ∧ v14 = .int .i64 q ∧ v7 = .int .i64 (sgl 1 xs (prs c q)) ∧ Below w.heap.size w wr) (fun _ v14 _ => c.length - (intOf v14).toNat)
  case atStart => exact ⟨0, Nat.zero_le _, rfl, rfl, Below.refl _ _⟩
  case round =>
    obtain ⟨q, hq, rfl, rfl, hb⟩ := hrel
    by_cases hlt : q < c.length
    · obtain ⟨rfl, cq'⟩ := HR'.out.2 q (by simpa using hlt)
      have hbl : b' < w.heap.size := by rcases hb0' with h | h; cases h; exact h
      have cq' := (hb.cell (p := ⟨b', 0 + q, none⟩) hbl).trans cq'
      rw [HEQ.out q hlt, Nat.zero_add] at cq'
      have hiq := HIN.out q hlt
      have hqi : (q : Int) < (c.length : Int) := by omega
      have HPS : Hid (prs c (q + 1) = prs c q ++ rowp c q (c.length - (q + 1))) := Lib.hid rfl
      have HRS := Lib.hid (rowp_succ c q)
      have HSN := Lib.hid (fun m j => sgl_snoc 1 xs (prs c q ++ rowp c q m) (c.getD q 0) j)
      have HPM := Lib.hid (fun ps => sgl_pm 1 (.inl rfl) xs ps)
      have hp0 : sgl 1 xs (prs c q ++ rowp c q 0) = sgl 1 xs (prs c q) := by simp [rowp]
      have HP0 := Lib.hid hp0
      generalize hi0 : c.getD q 0 = i at cq' hiq HRS HSN
      clear hi0 hp0
      by_cases hcq : cap' = q + 1
      · go_wp2_with fail
        go_loopw [7, 24] (fun v7 v24 wr => ∃ m : Nat, m ≤ c.length - (q + 1) ∧ v24 = .int .i64 m ∧ v7 = .int .i64 (sgl 1 xs (prs c q ++ rowp c q m)) ∧ Below w.heap.size w wr) (fun _ v24 _ => c.length - (q + 1) - (intOf v24).toNat)
        case atStart => exact ⟨0, Nat.zero_le _, rfl, by rw [HP0.out], hb⟩
        case round =>
          clear hb cq'
          obtain ⟨m, hm, rfl, rfl, hb⟩ := hrel
          by_cases hltm : m < c.length - (q + 1)
          · exfalso; omega
          · have hm2 : m = c.length - (q + 1) := by omega
            rw [hm2, ← HPS.out]
            clear hm2
            go_wp2_with fail
            go_roundw
            case rel => exact ⟨q + 1, by omega, by go_num, rfl, hb⟩
            case measure => simp [intOf]; omega
      · go_wp2_with fail
        go_loopw [7, 24] (fun v7 v24 wr => ∃ m : Nat, m ≤ c.length - (q + 1) ∧ v24 = .int .i64 m ∧ v7 = .int .i64 (sgl 1 xs (prs c q ++ rowp c q m)) ∧ Below w.heap.size w wr) (fun _ v24 _ => c.length - (q + 1) - (intOf v24).toNat)
        case atStart => exact ⟨0, Nat.zero_le _, rfl, by rw [HP0.out], hb⟩
        case round =>
          clear hb cq'
          obtain ⟨m, hm, rfl, rfl, hb⟩ := hrel
          by_cases hltm : m < c.length - (q + 1)
          · have hq1 : q + 1 + m < c.length := by omega
            obtain ⟨-, cm⟩ := HR'.out.2 (q + 1 + m) (by simpa using hq1)
            have cm := (hb.cell (p := ⟨b', 0 + (q + 1 + m), none⟩) hbl).trans cm
            rw [HEQ.out _ hq1, Nat.zero_add] at cm
            have him := HIN.out _ hq1
            have HE : Hid (sgl 1 xs (prs c q ++ rowp c q (m + 1)) = if xs.getD (c.getD (q + 1 + m) 0) 0 < xs.getD i 0 then -(sgl 1 xs (prs c q ++ rowp c q m)) else sgl 1 xs (prs c q ++ rowp c q m)) := Lib.hid (by
              rw [HRS.out m, ← List.append_assoc]; exact HSN.out m _)
            have hpm := HPM.out (prs c q ++ rowp c q m)
            have hmi : (m : Int) < ((c.length - (q + 1) : Nat) : Int) := by omega
            generalize c.getD (q + 1 + m) 0 = j at cm him HE
            have HW := HXR.out _ hb
            obtain ⟨rfl, l0⟩ := HW.2 i hiq
            have l1 := (HW.2 j him).2
            rw [Nat.zero_add] at l0 l1
            have hii : (i : Int) < (xs.length : Int) := by omega
            have hjj : (j : Int) < (xs.length : Int) := by omega
            clear HW
            generalize xs.getD i 0 = x at l0 HE
            generalize xs.getD j 0 = y at l1 HE
            generalize sgl 1 xs (prs c q ++ rowp c q m) = s at hpm HE ⊢
            by_cases hyx : y < x
            · rw [if_pos hyx] at HE
              have hd : decide (y < x) = true := decide_eq_true hyx
              go_wp2_with fail
              go_quiet (fail)
              go_wp2_with fail
              go_roundw
              case rel => exact ⟨m + 1, by omega, by go_num, by rw [HE.out], below_drewN hb _⟩
              case measure => simp [intOf]; omega
            · rw [if_neg hyx] at HE
              have hd : decide (y < x) = false := decide_eq_false hyx
              go_wp2_with fail
              go_quiet (fail)
              go_wp2_with fail
              go_roundw
              case rel => exact ⟨m + 1, by omega, by go_num, by rw [HE.out], below_drewN hb _⟩
              case measure => simp [intOf]; omega
          · have hm2 : m = c.length - (q + 1) := by omega
            rw [hm2, ← HPS.out]
            clear hm2
            go_wp2_with fail
            go_roundw
            case rel => exact ⟨q + 1, by omega, by go_num, rfl, hb⟩
            case measure => simp [intOf]; omega
    · have hq2 : q = c.length := by omega
      rw [hq2]
      clear hq2
      have hpm := sgl_pm 1 (.inl rfl) xs (prs c c.length)
      generalize hs : sgl 1 xs (prs c c.length) = s at hpm ⊢
      have HS := Lib.hid hs
      have hsb : -1 ≤ s ∧ s ≤ 1 := by omega
      clear hpm hs
      cases hU : upS n c
      · have HW := HUP.out _ hb
        rw [hU] at HW
        go_wp2_with fail
        refine HW.mono ?_
        rintro e w1 ⟨rfl, hb1⟩
        go_wp2_with fail
        all_goals (go_ret; exact ⟨by rw [HS.out]; rfl, bnext hb hb1⟩)
      · have HW := HUP.out _ hb
        rw [hU] at HW
        go_wp2_with fail
        refine HW.mono ?_
        rintro e w1 ⟨rfl, hb1⟩
        go_wp2_with fail
        all_goals (go_ret; exact ⟨by rw [HS.out]; rfl, bnext hb hb1⟩)
end Go.Proofs.Ytgbfpmfennmebaa
